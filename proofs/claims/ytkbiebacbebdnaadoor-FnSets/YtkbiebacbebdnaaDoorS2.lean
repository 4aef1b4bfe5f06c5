/- Zc, Zd, Qa, Qpa, Qpb, Ffg. -/
import Derived.Test.YtkbiebacbebdnaaDoorS1
namespace Go.Proofs.YtkbiebacbebdnaaDoor
open Go.RowKit
theorem dtl (s : ByteArray) : s.data.toList.length = s.size := Array.length_toList
theorem gt14 {s : ByteArray} {a : Nat} (h : a < s.size) : s.data.toList[a]? = some s[a] := List.getElem?_eq_getElem (l := s.data.toList) (i := a) (by rw [dtl]; exact h)
theorem gn14 {s : ByteArray} {a : Nat} (h : s.size ≤ a) : s.data.toList[a]? = none := List.getElem?_eq_none (by rw [dtl]; exact h)
/-- At most f figures from a place on. -/
def dgs (s : ByteArray) : Nat → Nat → Nat → Nat × Nat
  | 0, k, n => (n, k)
  | f + 1, k, n =>
    match s.data.toList[k]? with
    | none => (n, k)
    | some b => if 48 ≤ b.toNat ∧ b.toNat ≤ 57 then dgs s f (k + 1) (10 * n + b.toNat - 48) else (n, k)
/-- A number or 42 from a place on. -/
def nbr (s : ByteArray) (a : Nat) : Nat × Nat × Bool :=
  if (s.data.toList[a]?).map (fun b => b.toNat) = some 42 then (0, a + 1, true)
  else ((dgs s 4 a 0).1, (dgs s 4 a 0).2, decide (a < (dgs s 4 a 0).2) && decide (0 < (dgs s 4 a 0).1))
theorem dgs_ge (s : ByteArray) : ∀ (f k n : Nat), k ≤ (dgs s f k n).2 ∧ (k ≤ s.size → (dgs s f k n).2 ≤ s.size)
  | 0, k, n => ⟨Nat.le_refl _, fun h => h⟩
  | f + 1, k, n => by
    rw [dgs]
    by_cases h : k < s.size
    · rw [gt14 h]
      dsimp only
      split
      · have := dgs_ge s f (k + 1) (10 * n + s[k].toNat - 48)
        exact ⟨by omega, fun _ => this.2 (by omega)⟩
      · exact ⟨Nat.le_refl _, fun h => h⟩
    · rw [gn14 (by omega)]
      exact ⟨Nat.le_refl _, fun h => h⟩
set_option maxHeartbeats 3200000 in
set_option maxRecDepth 100000 in
theorem number_14 (s : ByteArray) (a : Nat) (w : World) (hs : s.size ≤ 1048576) (ha : a ≤ s.size) :
    Calls Tryd.prog 37 #[.string s, .int .i64 (a : Int)] w fun e w' => e = .returned (.tuple #[.int .i64 ((nbr s a).1 : Int), .int .i64 ((nbr s a).2.1 : Int), .bool (nbr s a).2.2]) ∧ w' = w := by
  by_cases h42 : ∃ h : a < s.size, s[a].toNat = 42
  · obtain ⟨hlt, hcx⟩ := h42
    have HX : Hid (nbr s a = (0, a + 1, true)) := by
      show _ = _
      rw [nbr, gt14 hlt, if_pos (by simp [hcx])]
    have hI : (0 : Int) ≤ (a : Int) ∧ (a : Int) < (s.size : Int) := by omega
    go_enter Tryd.func37, Tryd.ntmps37
    go_wp2
    go_ret3
    exact ⟨by rw [HX.out]; rfl, rfl⟩
  · have HN : Hid (nbr s a = ((dgs s 4 a 0).1, (dgs s 4 a 0).2, decide (a < (dgs s 4 a 0).2) && decide (0 < (dgs s 4 a 0).1))) := by
      show _ = _
      rw [nbr, if_neg]
      intro h
      by_cases hlt : a < s.size
      · rw [gt14 hlt] at h
        simp only [Option.map_some, Option.some.injEq] at h
        exact h42 ⟨hlt, h⟩
      · rw [gn14 (by omega)] at h
        cases h
    obtain ⟨⟨rn, rk⟩, hR⟩ : ∃ R, dgs s 4 a 0 = R := ⟨_, rfl⟩
    rw [hR] at HN
    dsimp only at HN
    have HR := hid hR
    have hway : (s.size ≤ a) ∨ (∃ (h : a < s.size) (c : Nat), s[a].toNat = c ∧ ((c : Int) == 42) = false) := by
      by_cases hlt : a < s.size
      · exact Or.inr ⟨hlt, _, rfl, by rw [beq_eq_false_iff_ne]; intro e; exact h42 ⟨hlt, by omega⟩⟩
      · exact Or.inl (by omega)
    clear hR h42
    go_enter Tryd.func37, Tryd.ntmps37
    rcases hway with hle | ⟨hlt, c, hcx, hc42⟩
    · have hnl : ¬ ((a : Int) < (s.size : Int)) := by omega
      go_wp2
      clear hnl hle
      go_loopw [7, 8] (fun nv kv wr => ∃ (f k n : Nat), nv = .int .i64 (n : Int) ∧ kv = .int .i64 (k : Int) ∧ f ≤ 4 ∧ k + f = a + 4 ∧ n ≤ 10000 ∧ (f = 1 → n ≤ 999) ∧ (f = 2 → n ≤ 99) ∧ (f = 3 → n ≤ 9) ∧ (f = 4 → n = 0) ∧ k ≤ s.size ∧ Hid (dgs s f k n = (rn, rk)) ∧ wr = w) (fun _ kv _ => 1048577 - (intOf kv).toNat)
      case atStart => exact ⟨4, a, 0, rfl, rfl, by omega, by omega, by omega, fun _ => by omega, fun _ => by omega, fun _ => by omega, fun _ => rfl, ha, HR.out, rfl⟩
      case round =>
        obtain ⟨f, k, n, rfl, rfl, hf4, hkf, hn, n1, n2, n3, n4, hks, HD, hw⟩ := hrel
        subst hw
        have HNB := hid (And.intro n1 (And.intro n2 (And.intro n3 n4)))
        clear n1 n2 n3 n4
        have hexit : ∀ (h : dgs s f k n = (n, k)), rn = n ∧ rk = k := fun h => by
          have := HD.out.symm.trans h
          simp only [Prod.mk.injEq] at this
          exact this
        by_cases hlt2 : k < s.size
        · obtain ⟨c2, hcx2⟩ : ∃ c : Nat, s[k].toNat = c := ⟨_, rfl⟩
          have hcb : c2 < 256 := by rw [← hcx2]; exact s[k].toNat_lt
          have hJ : (0 : Int) ≤ (k : Int) ∧ (k : Int) < (s.size : Int) := by omega
          by_cases hd : 48 ≤ c2 ∧ c2 ≤ 57
          · have j1 : (48 : Int) ≤ (c2 : Int) := by omega
            have j2 : (c2 : Int) ≤ 57 := by omega
            cases f with
            | zero =>
              obtain ⟨e1, e2⟩ := hexit rfl
              subst e1
              subst e2
              have j3 : ¬ ((rk : Int) < (a : Int) + 4) := by omega
              clear hexit hd
              by_cases g1 : a < rk
              · by_cases g2 : 0 < rn
                · have HX : Hid (nbr s a = (rn, rk, true)) := by show _ = _; rw [HN.out, decide_eq_true g1, decide_eq_true g2]; rfl
                  go_wp2
                  go_ret3
                  exact ⟨by rw [HX.out]; rfl, rfl⟩
                · have HX : Hid (nbr s a = (rn, rk, false)) := by show _ = _; rw [HN.out, decide_eq_true g1, decide_eq_false g2]; rfl
                  go_wp2
                  go_ret3
                  exact ⟨by rw [HX.out]; rfl, rfl⟩
              · have HX : Hid (nbr s a = (rn, rk, false)) := by show _ = _; rw [HN.out, decide_eq_false g1]; rfl
                go_wp2
                go_ret3
                exact ⟨by rw [HX.out]; rfl, rfl⟩
            | succ f =>
              have HD2 : Hid (dgs s f (k + 1) (10 * n + c2 - 48) = (rn, rk)) := by
                have := HD.out
                rw [dgs, gt14 hlt2] at this
                dsimp only at this
                rw [hcx2, if_pos hd] at this
                exact this
              have j3 : ((k : Int) < (a : Int) + 4) := by omega
              have hn9 : n ≤ 999 := by have := HNB.out; omega
              clear hexit hd
              go_wp2
              go_roundw
              case rel =>
                have hnb := HNB.out
                exact ⟨f, k + 1, 10 * n + c2 - 48, by go_num, by go_num, by omega, by omega, by omega, fun _ => by omega, fun _ => by omega, fun _ => by omega, fun _ => by omega, by omega, HD2.out, trivial⟩
              case measure => simp [intOf]; omega
          · have hz : dgs s f k n = (n, k) := by
              cases f with
              | zero => rfl
              | succ f =>
                rw [dgs, gt14 hlt2]
                dsimp only
                rw [hcx2, if_neg hd]
            obtain ⟨e1, e2⟩ := hexit hz
            subst e1
            subst e2
            have hd2 : ((c2 : Int) < 48) ∨ (¬ ((c2 : Int) < 48) ∧ (57 : Int) < (c2 : Int)) := by omega
            clear hexit hd hz
            rcases hd2 with j1 | ⟨j1, j2⟩
            · by_cases g1 : a < rk
              · by_cases g2 : 0 < rn
                · have HX : Hid (nbr s a = (rn, rk, true)) := by show _ = _; rw [HN.out, decide_eq_true g1, decide_eq_true g2]; rfl
                  go_wp2
                  go_ret3
                  exact ⟨by rw [HX.out]; rfl, rfl⟩
                · have HX : Hid (nbr s a = (rn, rk, false)) := by show _ = _; rw [HN.out, decide_eq_true g1, decide_eq_false g2]; rfl
                  go_wp2
                  go_ret3
                  exact ⟨by rw [HX.out]; rfl, rfl⟩
              · have HX : Hid (nbr s a = (rn, rk, false)) := by show _ = _; rw [HN.out, decide_eq_false g1]; rfl
                go_wp2
                go_ret3
                exact ⟨by rw [HX.out]; rfl, rfl⟩
            · by_cases g1 : a < rk
              · by_cases g2 : 0 < rn
                · have HX : Hid (nbr s a = (rn, rk, true)) := by show _ = _; rw [HN.out, decide_eq_true g1, decide_eq_true g2]; rfl
                  go_wp2
                  go_ret3
                  exact ⟨by rw [HX.out]; rfl, rfl⟩
                · have HX : Hid (nbr s a = (rn, rk, false)) := by show _ = _; rw [HN.out, decide_eq_true g1, decide_eq_false g2]; rfl
                  go_wp2
                  go_ret3
                  exact ⟨by rw [HX.out]; rfl, rfl⟩
              · have HX : Hid (nbr s a = (rn, rk, false)) := by show _ = _; rw [HN.out, decide_eq_false g1]; rfl
                go_wp2
                go_ret3
                exact ⟨by rw [HX.out]; rfl, rfl⟩
        · have hz : dgs s f k n = (n, k) := by
            cases f with
            | zero => rfl
            | succ f => rw [dgs, gn14 (by omega)]
          obtain ⟨e1, e2⟩ := hexit hz
          subst e1
          subst e2
          have j1 : ¬ ((rk : Int) < (s.size : Int)) := by omega
          clear hexit hz
          by_cases g1 : a < rk
          · by_cases g2 : 0 < rn
            · have HX : Hid (nbr s a = (rn, rk, true)) := by show _ = _; rw [HN.out, decide_eq_true g1, decide_eq_true g2]; rfl
              go_wp2
              go_ret3
              exact ⟨by rw [HX.out]; rfl, rfl⟩
            · have HX : Hid (nbr s a = (rn, rk, false)) := by show _ = _; rw [HN.out, decide_eq_true g1, decide_eq_false g2]; rfl
              go_wp2
              go_ret3
              exact ⟨by rw [HX.out]; rfl, rfl⟩
          · have HX : Hid (nbr s a = (rn, rk, false)) := by show _ = _; rw [HN.out, decide_eq_false g1]; rfl
            go_wp2
            go_ret3
            exact ⟨by rw [HX.out]; rfl, rfl⟩
    · have hI : (0 : Int) ≤ (a : Int) ∧ (a : Int) < (s.size : Int) := by omega
      go_wp2
      clear hI hc42
      go_loopw [7, 8] (fun nv kv wr => ∃ (f k n : Nat), nv = .int .i64 (n : Int) ∧ kv = .int .i64 (k : Int) ∧ f ≤ 4 ∧ k + f = a + 4 ∧ n ≤ 10000 ∧ (f = 1 → n ≤ 999) ∧ (f = 2 → n ≤ 99) ∧ (f = 3 → n ≤ 9) ∧ (f = 4 → n = 0) ∧ k ≤ s.size ∧ Hid (dgs s f k n = (rn, rk)) ∧ wr = w) (fun _ kv _ => 1048577 - (intOf kv).toNat)
      case atStart => exact ⟨4, a, 0, rfl, rfl, by omega, by omega, by omega, fun _ => by omega, fun _ => by omega, fun _ => by omega, fun _ => rfl, ha, HR.out, rfl⟩
      case round =>
        obtain ⟨f, k, n, rfl, rfl, hf4, hkf, hn, n1, n2, n3, n4, hks, HD, hw⟩ := hrel
        subst hw
        have HNB := hid (And.intro n1 (And.intro n2 (And.intro n3 n4)))
        clear n1 n2 n3 n4
        have hexit : ∀ (h : dgs s f k n = (n, k)), rn = n ∧ rk = k := fun h => by
          have := HD.out.symm.trans h
          simp only [Prod.mk.injEq] at this
          exact this
        by_cases hlt2 : k < s.size
        · obtain ⟨c2, hcx2⟩ : ∃ c : Nat, s[k].toNat = c := ⟨_, rfl⟩
          have hcb : c2 < 256 := by rw [← hcx2]; exact s[k].toNat_lt
          have hJ : (0 : Int) ≤ (k : Int) ∧ (k : Int) < (s.size : Int) := by omega
          by_cases hd : 48 ≤ c2 ∧ c2 ≤ 57
          · have j1 : (48 : Int) ≤ (c2 : Int) := by omega
            have j2 : (c2 : Int) ≤ 57 := by omega
            cases f with
            | zero =>
              obtain ⟨e1, e2⟩ := hexit rfl
              subst e1
              subst e2
              have j3 : ¬ ((rk : Int) < (a : Int) + 4) := by omega
              clear hexit hd
              by_cases g1 : a < rk
              · by_cases g2 : 0 < rn
                · have HX : Hid (nbr s a = (rn, rk, true)) := by show _ = _; rw [HN.out, decide_eq_true g1, decide_eq_true g2]; rfl
                  go_wp2
                  go_ret3
                  exact ⟨by rw [HX.out]; rfl, rfl⟩
                · have HX : Hid (nbr s a = (rn, rk, false)) := by show _ = _; rw [HN.out, decide_eq_true g1, decide_eq_false g2]; rfl
                  go_wp2
                  go_ret3
                  exact ⟨by rw [HX.out]; rfl, rfl⟩
              · have HX : Hid (nbr s a = (rn, rk, false)) := by show _ = _; rw [HN.out, decide_eq_false g1]; rfl
                go_wp2
                go_ret3
                exact ⟨by rw [HX.out]; rfl, rfl⟩
            | succ f =>
              have HD2 : Hid (dgs s f (k + 1) (10 * n + c2 - 48) = (rn, rk)) := by
                have := HD.out
                rw [dgs, gt14 hlt2] at this
                dsimp only at this
                rw [hcx2, if_pos hd] at this
                exact this
              have j3 : ((k : Int) < (a : Int) + 4) := by omega
              have hn9 : n ≤ 999 := by have := HNB.out; omega
              clear hexit hd
              go_wp2
              go_roundw
              case rel =>
                have hnb := HNB.out
                exact ⟨f, k + 1, 10 * n + c2 - 48, by go_num, by go_num, by omega, by omega, by omega, fun _ => by omega, fun _ => by omega, fun _ => by omega, fun _ => by omega, by omega, HD2.out, trivial⟩
              case measure => simp [intOf]; omega
          · have hz : dgs s f k n = (n, k) := by
              cases f with
              | zero => rfl
              | succ f =>
                rw [dgs, gt14 hlt2]
                dsimp only
                rw [hcx2, if_neg hd]
            obtain ⟨e1, e2⟩ := hexit hz
            subst e1
            subst e2
            have hd2 : ((c2 : Int) < 48) ∨ (¬ ((c2 : Int) < 48) ∧ (57 : Int) < (c2 : Int)) := by omega
            clear hexit hd hz
            rcases hd2 with j1 | ⟨j1, j2⟩
            · by_cases g1 : a < rk
              · by_cases g2 : 0 < rn
                · have HX : Hid (nbr s a = (rn, rk, true)) := by show _ = _; rw [HN.out, decide_eq_true g1, decide_eq_true g2]; rfl
                  go_wp2
                  go_ret3
                  exact ⟨by rw [HX.out]; rfl, rfl⟩
                · have HX : Hid (nbr s a = (rn, rk, false)) := by show _ = _; rw [HN.out, decide_eq_true g1, decide_eq_false g2]; rfl
                  go_wp2
                  go_ret3
                  exact ⟨by rw [HX.out]; rfl, rfl⟩
              · have HX : Hid (nbr s a = (rn, rk, false)) := by show _ = _; rw [HN.out, decide_eq_false g1]; rfl
                go_wp2
                go_ret3
                exact ⟨by rw [HX.out]; rfl, rfl⟩
            · by_cases g1 : a < rk
              · by_cases g2 : 0 < rn
                · have HX : Hid (nbr s a = (rn, rk, true)) := by show _ = _; rw [HN.out, decide_eq_true g1, decide_eq_true g2]; rfl
                  go_wp2
                  go_ret3
                  exact ⟨by rw [HX.out]; rfl, rfl⟩
                · have HX : Hid (nbr s a = (rn, rk, false)) := by show _ = _; rw [HN.out, decide_eq_true g1, decide_eq_false g2]; rfl
                  go_wp2
                  go_ret3
                  exact ⟨by rw [HX.out]; rfl, rfl⟩
              · have HX : Hid (nbr s a = (rn, rk, false)) := by show _ = _; rw [HN.out, decide_eq_false g1]; rfl
                go_wp2
                go_ret3
                exact ⟨by rw [HX.out]; rfl, rfl⟩
        · have hz : dgs s f k n = (n, k) := by
            cases f with
            | zero => rfl
            | succ f => rw [dgs, gn14 (by omega)]
          obtain ⟨e1, e2⟩ := hexit hz
          subst e1
          subst e2
          have j1 : ¬ ((rk : Int) < (s.size : Int)) := by omega
          clear hexit hz
          by_cases g1 : a < rk
          · by_cases g2 : 0 < rn
            · have HX : Hid (nbr s a = (rn, rk, true)) := by show _ = _; rw [HN.out, decide_eq_true g1, decide_eq_true g2]; rfl
              go_wp2
              go_ret3
              exact ⟨by rw [HX.out]; rfl, rfl⟩
            · have HX : Hid (nbr s a = (rn, rk, false)) := by show _ = _; rw [HN.out, decide_eq_true g1, decide_eq_false g2]; rfl
              go_wp2
              go_ret3
              exact ⟨by rw [HX.out]; rfl, rfl⟩
          · have HX : Hid (nbr s a = (rn, rk, false)) := by show _ = _; rw [HN.out, decide_eq_false g1]; rfl
            go_wp2
            go_ret3
            exact ⟨by rw [HX.out]; rfl, rfl⟩
theorem gcs_app (l m : List G2) : gcs (l ++ m) = gcs l ++ gcs m := by
  induction l with
  | nil => rfl
  | cons p l ih => simp only [List.cons_append, gcs, ih]
theorem gcs_one (l : List G2) : ∀ u ∈ gcs l, u.oneCell' = true := by
  induction l with
  | nil => intro u hu; cases hu
  | cons p l ih =>
    intro u hu
    simp only [gcs, List.mem_cons] at hu
    rcases hu with rfl | rfl | hu
    · rfl
    · rfl
    · exact ih u hu
/-- A list of ranges that a call owns. -/
def OwG (w : World) (B : Nat) (v : Value) (l : List G2) : Prop := w.ownsRow B 47 2 v l.length (gcs l)
theorem info_gr : (Tryd.prog.info? 47).map (fun i => (i.zero, i.size, i.bytes)) = some (some (.agg #[.int .i64 0, .int .i64 0]), 2, 16) := by kernel_rfl
theorem cells_new14 (w : World) (p : G2) (e : Nat) : ∀ j u, (gcs [p])[j]? = some u → (w.alloc (.cells #[.int .i64 p.1, .int .i64 p.2] e)).cell? ((⟨w.heap.size, 0, none⟩ : Addr).add j) = some u := by
  intro j u hu
  have h := heap_alloc_new w (.cells #[.int .i64 p.1, .int .i64 p.2] e)
  have hadd : (⟨w.heap.size, 0, none⟩ : Addr).add j = ⟨w.heap.size, j, none⟩ := by unfold Addr.add; split <;> simp_all
  rw [hadd, cell_of_row _ _ _ _ _ _ h]
  simpa [gcs] using hu
theorem wpList_append_gr (w : World) {ops : Array Oper} {rest : List Oper} {o : Oper} {a : Act} {Q : Exit → Act → World → Prop} (hgd : o.guard = none) (s x : Operand)
    (ho : o.op = .call { callee := .builtin .append, args := #[s, x], argTypes := #[24, 24] })
    (base : Nat) (v : Value) (l : List G2) (hs : a.eval s = v) (hown : OwG w base v l) (p q : Int)
    (hx : a.eval x = .slice (some ⟨w.heap.size, 0, none⟩) 1 1) (hlen : l.length ≤ 1048576) (hbase : base ≤ w.heap.size)
    (h : ∀ v' w', OwG w' base v' (l ++ [(p, q)]) → (w.alloc (.cells #[.int .i64 p, .int .i64 q] 47)).grownBy w' v.ownBlock → wpList Tryd.prog ops Q rest (a.put o.dst v') w') :
    wpList Tryd.prog ops Q (o :: rest) a (w.alloc (.cells #[.int .i64 p, .int .i64 q] 47)) := by
  obtain ⟨i0, hi, hz0, hz1, hz2⟩ := info_parts3 info_gr
  refine wpList_append_own _ hgd s x 24 ho base 47 i0 _ 2 16 Tryd.underlying24 hi hz0 hz1 hz2 rfl (by decide) v _ _ hs (hown.alloc _) ⟨w.heap.size, 0, none⟩ 1 1 (gcs [(p, q)]) hx rfl (cells_new14 w (p, q) 47) (gcs_one _) (by unfold maxLen; omega) (by omega) (by simp; omega) ?_
  intro v' w' hown' hg _
  have h1 : OwG w' base v' (l ++ [(p, q)]) := by unfold OwG; rw [gcs_app]; simpa using hown'
  exact h v' w' h1 hg
theorem ownG_none {W : World} {g B : Nat} (h : W.heap[g]? = some (.cells #[] 47)) (hB : B ≤ g) : OwG W B (.slice (some ⟨g, 0, none⟩) 0 0) [] := ⟨by simp [gcs], .inr ⟨g, 0, #[], rfl, hB, h, Nat.zero_le _, by unfold maxLen; omega, rfl, rfl⟩⟩
theorem OwG.shape {W : World} {B : Nat} {v : Value} {l : List G2} (h : OwG W B v l) : ∃ a c, v = .slice a l.length c := by
  rcases h.2 with ⟨h1, h2⟩ | ⟨g, cap, cur, h1, _⟩
  · exact ⟨none, 0, by rw [h1, h2]⟩
  · exact ⟨_, cap, h1⟩
/-- The range that stands at a place, and the place behind it. -/
def rng (s : ByteArray) (a : Nat) : Option (G2 × Nat) :=
  if (nbr s a).2.2 = true then
    (if (s.data.toList[(nbr s a).2.1]?).map (fun b => b.toNat) = some 58 then
      (if (nbr s ((nbr s a).2.1 + 1)).2.2 = true then some ((((nbr s a).1 : Int), ((nbr s ((nbr s a).2.1 + 1)).1 : Int)), (nbr s ((nbr s a).2.1 + 1)).2.1) else none)
    else some ((((nbr s a).1 : Int), ((nbr s a).1 : Int)), (nbr s a).2.1))
  else none
/-- Ranges with 44 between, to the end. -/
def rss (s : ByteArray) : Nat → Nat → List G2 → Option (List G2)
  | 0, _, _ => none
  | f + 1, a, l =>
    match rng s a with
    | none => none
    | some (r, k) =>
      if 8 < (l ++ [r]).length then none
      else if k = s.size then some (l ++ [r])
      else if (s.data.toList[k]?).map (fun b => b.toNat) = some 44 then rss s f (k + 1) (l ++ [r]) else none
def rset (s : ByteArray) : Option (List G2) := rss s 9 0 []
/-- How reading a set ends. -/
def Rs14 (s : ByteArray) (w : World) (e : Ending) (w' : World) : Prop := ∃ v, OwG w' w.heap.size v ((rset s).getD []) ∧ e = .returned (.tuple #[v, .bool (rset s).isSome]) ∧ Below w.heap.size w w'
theorem nbr_end {s : ByteArray} {a : Nat} (ha : a ≤ s.size) : (nbr s a).2.1 ≤ s.size ∧ a ≤ (nbr s a).2.1 := by
  unfold nbr
  split
  · rename_i h
    by_cases hlt : a < s.size
    · exact ⟨hlt, Nat.le_succ _⟩
    · rw [gn14 (by omega)] at h; cases h
  · exact ⟨(dgs_ge s 4 a 0).2 ha, (dgs_ge s 4 a 0).1⟩
/-- What stands while a set is read. -/
structure Rd14 (w W : World) : Prop where
  nil : W.heap[w.heap.size]? = some (.cells #[] 47)
  bel : Below w.heap.size w W
section
variable {w W W' : World}
theorem Rd14.more (h : Rd14 w W) (hb : Below W.heap.size W W') : Rd14 w W' := ⟨(hb.block _ (Array.getElem?_eq_some_iff.1 h.nil).1).trans h.nil, btr h.bel hb⟩
theorem Rd14.app {v : Value} (h : Rd14 w W) (hg : W.grownBy W' v.ownBlock) (hv : ∀ j, v.ownBlock = some j → w.heap.size + 1 ≤ j) : Rd14 w W' :=
  ⟨(hg.block _ (Array.getElem?_eq_some_iff.1 h.nil).1 (fun e => by have := hv _ e.symm; omega)).trans h.nil, h.bel.trans (below_grownR hg (fun j hj => by have := hv j hj; omega) h.bel.size)⟩
theorem Rd14.far (h : Rd14 w W) {g : Nat} (hg : w.heap.size < g) (i : Nat) (v : Value) : Rd14 w (W.setCell ⟨g, i, none⟩ v) :=
  ⟨heap_setCell_far v h.nil (by omega), bsk h.bel (by omega) i v⟩
end
set_option maxHeartbeats 6400000 in
set_option maxRecDepth 100000 in
theorem specReadSet_any (s : ByteArray) (w : World) (hs : s.size ≤ 1048576) :
    Calls Tryd.prog 13 #[.string s] w fun e w' => Rs14 s w e w' := by
  obtain ⟨R, hR⟩ : ∃ R, rset s = R := ⟨_, rfl⟩
  have HR := hid hR
  clear hR
  obtain ⟨W0, hW0⟩ : ∃ W0, (w.alloc (.cells #[] 47)).alloc (.cells #[] 47) = W0 := ⟨_, rfl⟩
  have RD0 : Hid (Rd14 w W0) := by
    subst hW0
    exact ⟨(Below.heap_alloc _ _ _ (by simp)).trans (heap_alloc_new w _), bpush (bpush (bre _) _) _⟩
  have OW0 : Hid (OwG W0 (w.heap.size + 1) (.slice (some ⟨w.heap.size + 1, 0, none⟩) 0 0) []) := by
    subst hW0
    have h := heap_alloc_new (w.alloc (.cells #[] 47)) (.cells #[] 47)
    rw [show (w.alloc (.cells #[] 47)).heap.size = w.heap.size + 1 by simp] at h
    exact ownG_none h (Nat.le_refl _)
  go_enter Tryd.func13, Tryd.ntmps13
  go_wp2
  clear hW0
  go_loopw [5, 6] (fun ov iv wr => ∃ (a : Nat) (l : List G2), iv = .int .i64 (a : Int) ∧ OwG wr (w.heap.size + 1) ov l ∧ Rd14 w wr ∧ l.length ≤ 8 ∧ a ≤ s.size ∧ Hid (rss s (9 - l.length) a l = R)) (fun _ iv _ => s.size + 1 - (intOf iv).toNat)
  case atStart => exact ⟨0, [], rfl, OW0.out, RD0.out, by simp, by omega, HR.out⟩
  case round =>
    obtain ⟨a, l, rfl, ho, hr, hl8, hal, HD⟩ := hrel
    have HO := hid ho
    have RD := hid hr
    clear ho hr
    obtain ⟨fu, hfu⟩ : ∃ fu, 9 - l.length = fu + 1 := ⟨8 - l.length, by omega⟩
    rw [hfu] at HD
    have HFU := hid hfu
    clear hfu
    obtain ⟨⟨x, k, ok⟩, hx⟩ : ∃ r, nbr s a = r := ⟨_, rfl⟩
    have hk := nbr_end hal
    have HC := hid (number_14 s a wr hs hal)
    rw [hx] at hk HC
    dsimp only at hk HC
    have HX := hid hx
    clear hx
    go_wp2_with fail
    refine HC.out.mono ?_; rintro e w1 ⟨rfl, h1⟩
    subst h1
    clear HC
    cases ok with
    | false =>
      have HE : Hid (R = none) := by
        show _ = _
        rw [← HD.out, rss]
        have : rng s a = none := by unfold rng; rw [HX.out, if_neg (by simp)]
        rw [this]
      go_wp2
      go_ret2
      exact ⟨_, by rw [HR.out, HE.out]; exact ownG_none RD.out.nil (Nat.le_refl _), by rw [HR.out, HE.out]; rfl, RD.out.bel⟩
    | true =>
      by_cases h58 : ∃ h : k < s.size, s[k].toNat = 58
      · obtain ⟨hk2, hcx⟩ := h58
        obtain ⟨⟨y, k2, ok2⟩, hy⟩ : ∃ r, nbr s (k + 1) = r := ⟨_, rfl⟩
        have hk3 := nbr_end (s := s) (a := k + 1) (by omega)
        rw [hy] at hk3
        dsimp only at hk3
        have HY := hid hy
        have HRG : Hid (rng s a = if ok2 = true then some (((x : Int), (y : Int)), k2) else none) := by
          show _ = _
          unfold rng
          rw [HX.out]
          dsimp only
          rw [if_pos rfl, gt14 hk2, if_pos (by simp [hcx]), hy]
        have HC := hid (fun W => number_14 s (k + 1) W hs (by omega))
        rw [hy, show ((k + 1 : Nat) : Int) = (k : Int) + 1 by omega] at HC
        dsimp only at HC
        have hI : (0 : Int) ≤ (k : Int) ∧ (k : Int) < (s.size : Int) := by omega
        clear hy
        go_wp2_with fail
        refine (HC.out _).mono ?_; rintro e w2 ⟨rfl, h2⟩
        subst h2
        clear HC hI
        obtain ⟨W2, hW2⟩ : ∃ W2, w1.alloc (.cells #[.int .i64 (x : Int), .int .i64 (x : Int)] 47) = W2 := ⟨_, rfl⟩
        have RD2 : Hid (Rd14 w W2) := by rw [← hW2]; exact RD.out.more (bpush (bre _) _)
        have HO2 : Hid (OwG W2 (w.heap.size + 1) u5 l) := by rw [← hW2]; exact World.ownsRow.alloc HO.out _
        have HB2 : Hid (W2.heap[w1.heap.size]? = some (.cells #[.int .i64 (x : Int), .int .i64 (x : Int)] 47)) := by rw [← hW2]; exact heap_alloc_new w1 _
        have HGW : Hid (w.heap.size < w1.heap.size) := (Array.getElem?_eq_some_iff.1 RD.out.nil).1
        rw [hW2]
        clear hW2
        cases ok2 with
        | false =>
          have HE : Hid (R = none) := by
            show _ = _
            rw [← HD.out, rss, HRG.out, if_neg (by decide)]
          go_wp2
          go_ret2
          exact ⟨_, by rw [HR.out, HE.out]; exact ownG_none RD2.out.nil (Nat.le_refl _), by rw [HR.out, HE.out]; rfl, RD2.out.bel⟩
        | true =>
          have HRG2 : Hid (rng s a = some (((x : Int), (y : Int)), k2)) := by show _ = _; rw [HRG.out, if_pos rfl]
          have c1 := cell_of_row W2 w1.heap.size 1 _ _ _ HB2.out
          have f1 := frozen_of_row W2 w1.heap.size 1 _ _ HB2.out
          have RD3 : Hid (Rd14 w (W2.setCell ⟨w1.heap.size, 1, none⟩ (.int .i64 (y : Int)))) := RD2.out.far HGW.out _ _
          have HB3 : Hid ((W2.setCell ⟨w1.heap.size, 1, none⟩ (.int .i64 (y : Int))).heap[w1.heap.size]? = some (.cells #[.int .i64 (x : Int), .int .i64 (y : Int)] 47)) := heap_setCell_same W2 w1.heap.size 1 _ _ (.int .i64 (y : Int)) HB2.out
          have HO3 : Hid (OwG (W2.setCell ⟨w1.heap.size, 1, none⟩ (.int .i64 (y : Int))) (w.heap.size + 1) u5 l) := World.ownsRow.kept HO2.out (wst (wre _ _) _ _) (by
            cases hv : Value.ownBlock u5 with
            | none => exact Or.inl rfl
            | some j => exact Or.inr (fun e => by
                have h1 := (World.ownsRow.lt HO.out j hv).2
                simp only [Option.some.injEq] at e
                omega))
          clear HRG
          have hkk : k2 ≤ s.size ∧ a < k2 + 1 := by omega
          go_upto_region 15 with fail
          obtain ⟨WX, hWX⟩ : ∃ WX, W2.setCell ⟨w1.heap.size, 1, none⟩ (.int .i64 (y : Int)) = WX := ⟨_, rfl⟩
          rw [hWX] at RD3 HB3 HO3 ⊢
          clear hWX c1 f1
          obtain ⟨L2, hL2⟩ : ∃ L2, l ++ [((x : Int), (y : Int))] = L2 := ⟨_, rfl⟩
          obtain ⟨N, hN⟩ : ∃ N, L2.length = N := ⟨_, rfl⟩
          have hNl : N = l.length + 1 := by rw [← hN, ← hL2]; simp
          have HU : Hid (R = if 8 < N then none else if k2 = s.size then some L2 else if (s.data.toList[k2]?).map (fun b => b.toNat) = some 44 then rss s fu (k2 + 1) L2 else none) := by
            show _ = _
            rw [← HD.out, rss, HRG2.out]
            dsimp only
            rw [hL2, hN]
          have HL2 := hid hL2
          have HN := hid hN
          have HNL := hid hNl
          have hNb : N ≤ 9 := by omega
          have HLN : Hid (l.length ≤ 1048576) := by show _ ≤ _; omega
          have HSZ : Hid (w.heap.size + 1 ≤ WX.heap.size) := by have := (Array.getElem?_eq_some_iff.1 RD3.out.nil).1; show _ ≤ _; omega
          have RD4 : Hid (Rd14 w (WX.alloc (.cells #[.int .i64 (x : Int), .int .i64 (y : Int)] 47))) := RD3.out.more (bpush (bre _) _)
          have HB7 : Hid (∀ j, Value.ownBlock u5 = some j → w.heap.size + 1 ≤ j) := fun j hj => (World.ownsRow.lt HO3.out j hj).1
          have ck0 := cell_of_row WX w1.heap.size 0 _ _ _ HB3.out
          have ck1 := cell_of_row WX w1.heap.size 1 _ _ _ HB3.out
          clear hL2 hN hNl HRG2
          have hway : 8 < N ∨ (¬ 8 < N ∧ k2 = s.size) ∨ (¬ 8 < N ∧ k2 ≠ s.size) := by omega
          rcases hway with hbig | ⟨hbig, hend⟩ | ⟨hbig, hend⟩
          · have HE : Hid (R = none) := by show _ = _; rw [HU.out, if_pos hbig]
            clear HU
            go_wp2_with (at_builtin; refine wpList_append_gr WX rfl (.tmp 54) (.tmp 56) rfl (w.heap.size + 1) _ _ (by rfl) HO3.out _ _ rfl HLN.out HSZ.out ?_; rotate_right; intro v4 w4 ho4 hg4; have RD5 := hid (RD4.out.app hg4 HB7.out); (obtain ⟨a4, c4, hv4⟩ := OwG.shape ho4); (rw [HL2.out, HN.out] at hv4); subst hv4; clear ho4 hg4)
            go_ret2
            exact ⟨_, by rw [HR.out, HE.out]; exact ownG_none RD5.out.nil (Nat.le_refl _), by rw [HR.out, HE.out]; rfl, RD5.out.bel⟩
          · have HE : Hid (R = some L2) := by show _ = _; rw [HU.out, if_neg hbig, if_pos hend]
            have hee : ((k2 : Int) == (s.size : Int)) = true := by rw [hend]; simp
            clear HU hend
            go_wp2_with (at_builtin; refine wpList_append_gr WX rfl (.tmp 54) (.tmp 56) rfl (w.heap.size + 1) _ _ (by rfl) HO3.out _ _ rfl HLN.out HSZ.out ?_; rotate_right; intro v4 w4 ho4 hg4; have RD5 := hid (RD4.out.app hg4 HB7.out); (obtain ⟨a4, c4, hv4⟩ := OwG.shape ho4); (rw [HL2.out, HN.out] at hv4); subst hv4; (rw [HL2.out] at ho4); have HO4 := hid ho4; clear ho4 hg4)
            go_ret2
            exact ⟨_, by rw [HR.out, HE.out]; exact own_base HO4.out (by omega), by rw [HR.out, HE.out]; rfl, RD5.out.bel⟩
          · have hklt : k2 < s.size := by omega
            obtain ⟨c9, hc9⟩ : ∃ c : Nat, s[k2].toNat = c := ⟨_, rfl⟩
            have hc9b : c9 < 256 := by rw [← hc9]; exact s[k2].toNat_lt
            have HU2 : Hid (R = if c9 = 44 then rss s fu (k2 + 1) L2 else none) := by
              show _ = _
              rw [HU.out, if_neg hbig, if_neg hend, gt14 hklt]
              simp only [Option.map_some, Option.some.injEq, hc9]
            have hee : ((k2 : Int) == (s.size : Int)) = false := by rw [beq_eq_false_iff_ne]; omega
            have hI9 : (0 : Int) ≤ (k2 : Int) ∧ (k2 : Int) < (s.size : Int) := by omega
            clear HU hend
            by_cases h44 : c9 = 44
            · have HE : Hid (rss s (9 - L2.length) (k2 + 1) L2 = R) := by
                show _ = _
                rw [HU2.out, if_pos h44, show 9 - L2.length = fu by have h1 := HFU.out; have h2 := HNL.out; have h3 := HN.out; omega]
              have i44 : ((c9 : Int) != 44) = false := by rw [h44]; rfl
              clear HU2 h44
              go_wp2_with (at_builtin; refine wpList_append_gr WX rfl (.tmp 54) (.tmp 56) rfl (w.heap.size + 1) _ _ (by rfl) HO3.out _ _ rfl HLN.out HSZ.out ?_; rotate_right; intro v4 w4 ho4 hg4; have RD5 := hid (RD4.out.app hg4 HB7.out); (obtain ⟨a4, c4, hv4⟩ := OwG.shape ho4); (rw [HL2.out, HN.out] at hv4); subst hv4; (rw [HL2.out] at ho4); have HO4 := hid ho4; clear ho4 hg4)
              go_roundw
              case rel => exact ⟨k2 + 1, L2, by go_num, HO4.out, RD5.out, by rw [HN.out]; omega, by omega, HE.out⟩
              case measure => simp [intOf]; omega
            · have HE : Hid (R = none) := by show _ = _; rw [HU2.out, if_neg h44]
              have i44 : ((c9 : Int) != 44) = true := by simp; omega
              clear HU2 h44
              go_wp2_with (at_builtin; refine wpList_append_gr WX rfl (.tmp 54) (.tmp 56) rfl (w.heap.size + 1) _ _ (by rfl) HO3.out _ _ rfl HLN.out HSZ.out ?_; rotate_right; intro v4 w4 ho4 hg4; have RD5 := hid (RD4.out.app hg4 HB7.out); (obtain ⟨a4, c4, hv4⟩ := OwG.shape ho4); (rw [HL2.out, HN.out] at hv4); subst hv4; clear ho4 hg4)
              go_ret2
              exact ⟨_, by rw [HR.out, HE.out]; exact ownG_none RD5.out.nil (Nat.le_refl _), by rw [HR.out, HE.out]; rfl, RD5.out.bel⟩
      · have hn58 : (¬ ((k : Int) < (s.size : Int))) ∨ (∃ (h : k < s.size) (c : Nat), s[k].toNat = c ∧ ((c : Int) == 58) = false) := by
          by_cases hlt : k < s.size
          · exact Or.inr ⟨hlt, _, rfl, by rw [beq_eq_false_iff_ne]; intro e; exact h58 ⟨hlt, by omega⟩⟩
          · exact Or.inl (by omega)
        have HRG2 : Hid (rng s a = some (((x : Int), (x : Int)), k)) := by
          show _ = _
          unfold rng
          rw [HX.out]
          dsimp only
          rw [if_pos rfl, if_neg]
          intro h
          by_cases hlt : k < s.size
          · rw [gt14 hlt] at h
            simp only [Option.map_some, Option.some.injEq] at h
            exact h58 ⟨hlt, h⟩
          · rw [gn14 (by omega)] at h
            cases h
        have hkk : k ≤ s.size ∧ a < k + 1 := by omega
        clear h58
        rcases hn58 with j1 | ⟨j1, c, j2, j3⟩
        · have RD3 : Hid (Rd14 w (w1.alloc (.cells #[.int .i64 (x : Int), .int .i64 (x : Int)] 47))) := RD.out.more (bpush (bre _) _)
          have HO3 : Hid (OwG (w1.alloc (.cells #[.int .i64 (x : Int), .int .i64 (x : Int)] 47)) (w.heap.size + 1) u5 l) := World.ownsRow.alloc HO.out _
          have HB3 : Hid ((w1.alloc (.cells #[.int .i64 (x : Int), .int .i64 (x : Int)] 47)).heap[w1.heap.size]? = some (.cells #[.int .i64 (x : Int), .int .i64 (x : Int)] 47)) := heap_alloc_new w1 _
          have HGW : Hid (w.heap.size < w1.heap.size) := (Array.getElem?_eq_some_iff.1 RD.out.nil).1
          go_upto_region 15 with fail
          obtain ⟨WX, hWX⟩ : ∃ WX, w1.alloc (.cells #[.int .i64 (x : Int), .int .i64 (x : Int)] 47) = WX := ⟨_, rfl⟩
          rw [hWX] at RD3 HB3 HO3 ⊢
          clear hWX
          have hks : s.size ≤ k := by omega
          clear j1
          obtain ⟨L2, hL2⟩ : ∃ L2, l ++ [((x : Int), (x : Int))] = L2 := ⟨_, rfl⟩
          obtain ⟨N, hN⟩ : ∃ N, L2.length = N := ⟨_, rfl⟩
          have hNl : N = l.length + 1 := by rw [← hN, ← hL2]; simp
          have HU : Hid (R = if 8 < N then none else if k = s.size then some L2 else if (s.data.toList[k]?).map (fun b => b.toNat) = some 44 then rss s fu (k + 1) L2 else none) := by
            show _ = _
            rw [← HD.out, rss, HRG2.out]
            dsimp only
            rw [hL2, hN]
          have HL2 := hid hL2
          have HN := hid hN
          have HNL := hid hNl
          have hNb : N ≤ 9 := by omega
          have HLN : Hid (l.length ≤ 1048576) := by show _ ≤ _; omega
          have HSZ : Hid (w.heap.size + 1 ≤ WX.heap.size) := by have := (Array.getElem?_eq_some_iff.1 RD3.out.nil).1; show _ ≤ _; omega
          have RD4 : Hid (Rd14 w (WX.alloc (.cells #[.int .i64 (x : Int), .int .i64 (x : Int)] 47))) := RD3.out.more (bpush (bre _) _)
          have HB7 : Hid (∀ j, Value.ownBlock u5 = some j → w.heap.size + 1 ≤ j) := fun j hj => (World.ownsRow.lt HO3.out j hj).1
          have ck0 := cell_of_row WX w1.heap.size 0 _ _ _ HB3.out
          have ck1 := cell_of_row WX w1.heap.size 1 _ _ _ HB3.out
          clear hL2 hN hNl HRG2
          have hway : 8 < N ∨ (¬ 8 < N ∧ k = s.size) ∨ (¬ 8 < N ∧ k ≠ s.size) := by omega
          rcases hway with hbig | ⟨hbig, hend⟩ | ⟨hbig, hend⟩
          · have HE : Hid (R = none) := by show _ = _; rw [HU.out, if_pos hbig]
            clear HU
            go_wp2_with (at_builtin; refine wpList_append_gr WX rfl (.tmp 54) (.tmp 56) rfl (w.heap.size + 1) _ _ (by rfl) HO3.out _ _ rfl HLN.out HSZ.out ?_; rotate_right; intro v4 w4 ho4 hg4; have RD5 := hid (RD4.out.app hg4 HB7.out); (obtain ⟨a4, c4, hv4⟩ := OwG.shape ho4); (rw [HL2.out, HN.out] at hv4); subst hv4; clear ho4 hg4)
            go_ret2
            exact ⟨_, by rw [HR.out, HE.out]; exact ownG_none RD5.out.nil (Nat.le_refl _), by rw [HR.out, HE.out]; rfl, RD5.out.bel⟩
          · have HE : Hid (R = some L2) := by show _ = _; rw [HU.out, if_neg hbig, if_pos hend]
            have hee : ((k : Int) == (s.size : Int)) = true := by rw [hend]; simp
            clear HU hend
            go_wp2_with (at_builtin; refine wpList_append_gr WX rfl (.tmp 54) (.tmp 56) rfl (w.heap.size + 1) _ _ (by rfl) HO3.out _ _ rfl HLN.out HSZ.out ?_; rotate_right; intro v4 w4 ho4 hg4; have RD5 := hid (RD4.out.app hg4 HB7.out); (obtain ⟨a4, c4, hv4⟩ := OwG.shape ho4); (rw [HL2.out, HN.out] at hv4); subst hv4; (rw [HL2.out] at ho4); have HO4 := hid ho4; clear ho4 hg4)
            go_ret2
            exact ⟨_, by rw [HR.out, HE.out]; exact own_base HO4.out (by omega), by rw [HR.out, HE.out]; rfl, RD5.out.bel⟩
          · omega
        · have RD3 : Hid (Rd14 w (w1.alloc (.cells #[.int .i64 (x : Int), .int .i64 (x : Int)] 47))) := RD.out.more (bpush (bre _) _)
          have HO3 : Hid (OwG (w1.alloc (.cells #[.int .i64 (x : Int), .int .i64 (x : Int)] 47)) (w.heap.size + 1) u5 l) := World.ownsRow.alloc HO.out _
          have HB3 : Hid ((w1.alloc (.cells #[.int .i64 (x : Int), .int .i64 (x : Int)] 47)).heap[w1.heap.size]? = some (.cells #[.int .i64 (x : Int), .int .i64 (x : Int)] 47)) := heap_alloc_new w1 _
          have HGW : Hid (w.heap.size < w1.heap.size) := (Array.getElem?_eq_some_iff.1 RD.out.nil).1
          go_upto_region 15 with fail
          obtain ⟨WX, hWX⟩ : ∃ WX, w1.alloc (.cells #[.int .i64 (x : Int), .int .i64 (x : Int)] 47) = WX := ⟨_, rfl⟩
          rw [hWX] at RD3 HB3 HO3 ⊢
          clear hWX j3 j2 j1
          obtain ⟨L2, hL2⟩ : ∃ L2, l ++ [((x : Int), (x : Int))] = L2 := ⟨_, rfl⟩
          obtain ⟨N, hN⟩ : ∃ N, L2.length = N := ⟨_, rfl⟩
          have hNl : N = l.length + 1 := by rw [← hN, ← hL2]; simp
          have HU : Hid (R = if 8 < N then none else if k = s.size then some L2 else if (s.data.toList[k]?).map (fun b => b.toNat) = some 44 then rss s fu (k + 1) L2 else none) := by
            show _ = _
            rw [← HD.out, rss, HRG2.out]
            dsimp only
            rw [hL2, hN]
          have HL2 := hid hL2
          have HN := hid hN
          have HNL := hid hNl
          have hNb : N ≤ 9 := by omega
          have HLN : Hid (l.length ≤ 1048576) := by show _ ≤ _; omega
          have HSZ : Hid (w.heap.size + 1 ≤ WX.heap.size) := by have := (Array.getElem?_eq_some_iff.1 RD3.out.nil).1; show _ ≤ _; omega
          have RD4 : Hid (Rd14 w (WX.alloc (.cells #[.int .i64 (x : Int), .int .i64 (x : Int)] 47))) := RD3.out.more (bpush (bre _) _)
          have HB7 : Hid (∀ j, Value.ownBlock u5 = some j → w.heap.size + 1 ≤ j) := fun j hj => (World.ownsRow.lt HO3.out j hj).1
          have ck0 := cell_of_row WX w1.heap.size 0 _ _ _ HB3.out
          have ck1 := cell_of_row WX w1.heap.size 1 _ _ _ HB3.out
          clear hL2 hN hNl HRG2
          have hway : 8 < N ∨ (¬ 8 < N ∧ k = s.size) ∨ (¬ 8 < N ∧ k ≠ s.size) := by omega
          rcases hway with hbig | ⟨hbig, hend⟩ | ⟨hbig, hend⟩
          · have HE : Hid (R = none) := by show _ = _; rw [HU.out, if_pos hbig]
            clear HU
            go_wp2_with (at_builtin; refine wpList_append_gr WX rfl (.tmp 54) (.tmp 56) rfl (w.heap.size + 1) _ _ (by rfl) HO3.out _ _ rfl HLN.out HSZ.out ?_; rotate_right; intro v4 w4 ho4 hg4; have RD5 := hid (RD4.out.app hg4 HB7.out); (obtain ⟨a4, c4, hv4⟩ := OwG.shape ho4); (rw [HL2.out, HN.out] at hv4); subst hv4; clear ho4 hg4)
            go_ret2
            exact ⟨_, by rw [HR.out, HE.out]; exact ownG_none RD5.out.nil (Nat.le_refl _), by rw [HR.out, HE.out]; rfl, RD5.out.bel⟩
          · have HE : Hid (R = some L2) := by show _ = _; rw [HU.out, if_neg hbig, if_pos hend]
            have hee : ((k : Int) == (s.size : Int)) = true := by rw [hend]; simp
            clear HU hend
            go_wp2_with (at_builtin; refine wpList_append_gr WX rfl (.tmp 54) (.tmp 56) rfl (w.heap.size + 1) _ _ (by rfl) HO3.out _ _ rfl HLN.out HSZ.out ?_; rotate_right; intro v4 w4 ho4 hg4; have RD5 := hid (RD4.out.app hg4 HB7.out); (obtain ⟨a4, c4, hv4⟩ := OwG.shape ho4); (rw [HL2.out, HN.out] at hv4); subst hv4; (rw [HL2.out] at ho4); have HO4 := hid ho4; clear ho4 hg4)
            go_ret2
            exact ⟨_, by rw [HR.out, HE.out]; exact own_base HO4.out (by omega), by rw [HR.out, HE.out]; rfl, RD5.out.bel⟩
          · have hklt : k < s.size := by omega
            obtain ⟨c9, hc9⟩ : ∃ c : Nat, s[k].toNat = c := ⟨_, rfl⟩
            have hc9b : c9 < 256 := by rw [← hc9]; exact s[k].toNat_lt
            have HU2 : Hid (R = if c9 = 44 then rss s fu (k + 1) L2 else none) := by
              show _ = _
              rw [HU.out, if_neg hbig, if_neg hend, gt14 hklt]
              simp only [Option.map_some, Option.some.injEq, hc9]
            have hee : ((k : Int) == (s.size : Int)) = false := by rw [beq_eq_false_iff_ne]; omega
            have hI9 : (0 : Int) ≤ (k : Int) ∧ (k : Int) < (s.size : Int) := by omega
            clear HU hend
            by_cases h44 : c9 = 44
            · have HE : Hid (rss s (9 - L2.length) (k + 1) L2 = R) := by
                show _ = _
                rw [HU2.out, if_pos h44, show 9 - L2.length = fu by have h1 := HFU.out; have h2 := HNL.out; have h3 := HN.out; omega]
              have i44 : ((c9 : Int) != 44) = false := by rw [h44]; rfl
              clear HU2 h44
              go_wp2_with (at_builtin; refine wpList_append_gr WX rfl (.tmp 54) (.tmp 56) rfl (w.heap.size + 1) _ _ (by rfl) HO3.out _ _ rfl HLN.out HSZ.out ?_; rotate_right; intro v4 w4 ho4 hg4; have RD5 := hid (RD4.out.app hg4 HB7.out); (obtain ⟨a4, c4, hv4⟩ := OwG.shape ho4); (rw [HL2.out, HN.out] at hv4); subst hv4; (rw [HL2.out] at ho4); have HO4 := hid ho4; clear ho4 hg4)
              go_roundw
              case rel => exact ⟨k + 1, L2, by go_num, HO4.out, RD5.out, by rw [HN.out]; omega, by omega, HE.out⟩
              case measure => simp [intOf]; omega
            · have HE : Hid (R = none) := by show _ = _; rw [HU2.out, if_neg h44]
              have i44 : ((c9 : Int) != 44) = true := by simp; omega
              clear HU2 h44
              go_wp2_with (at_builtin; refine wpList_append_gr WX rfl (.tmp 54) (.tmp 56) rfl (w.heap.size + 1) _ _ (by rfl) HO3.out _ _ rfl HLN.out HSZ.out ?_; rotate_right; intro v4 w4 ho4 hg4; have RD5 := hid (RD4.out.app hg4 HB7.out); (obtain ⟨a4, c4, hv4⟩ := OwG.shape ho4); (rw [HL2.out, HN.out] at hv4); subst hv4; clear ho4 hg4)
              go_ret2
              exact ⟨_, by rw [HR.out, HE.out]; exact ownG_none RD5.out.nil (Nat.le_refl _), by rw [HR.out, HE.out]; rfl, RD5.out.bel⟩
theorem dat_len (s : ByteArray) : s.data.toList.length = s.size := Array.length_toList
theorem dat_take (s : ByteArray) (k : Nat) (h : k < s.size) : s.data.toList.take (k + 1) = s.data.toList.take k ++ [s[k]] := by
  rw [List.take_succ_eq_append_getElem (by rw [dat_len]; exact h)]; rfl
theorem idxLite_any (s : ByteArray) (c : Int) (w : World) :
    Calls Tryd.prog 71 #[.string s, .int .u8 c] w fun e w' => e = .returned (.int .i64 (firstIdx s c.toNat.toUInt8)) ∧ w' = w := by
  go_enter Tryd.func71, Tryd.ntmps71
  go_wp2
  rw [run_callFunc_extern Tryd.func79 (by kernel_rfl) (by kernel_rfl) (by kernel_rfl) (e := Extern.BytealgIndexByte.indexByte) (by kernel_rfl), run_indexByte_string]
  simp only [Result.andThen]
  rw [Oper.upon_value]
  go_wp2
  go_ret
  exact ⟨rfl, rfl⟩
/-- How many bytes stand ahead of the first one that is none of these. -/
def lead (p : Nat → Bool) (s : ByteArray) : Nat := (s.data.toList.takeWhile (fun b => p b.toNat)).length
theorem tw_stop {α : Type} (q : α → Bool) : ∀ (l : List α) (i : Nat), (l.take i).all q = true → (∀ x, l[i]? = some x → q x = false) → i ≤ l.length → (l.takeWhile q).length = i
  | [], i, _, _, h => by simp at h; simp [h]
  | x :: l, 0, _, h, _ => by
    have := h x rfl
    simp [this]
  | x :: l, i + 1, ha, h, hl => by
    simp only [List.take_succ_cons, List.all_cons, Bool.and_eq_true] at ha
    have := tw_stop q l i ha.2 (fun y hy => h y (by simpa using hy)) (by simpa using hl)
    simp [ha.1, this]
theorem lead_stop {p : Nat → Bool} {s : ByteArray} {i : Nat} (h : i < s.size) (ha : (s.data.toList.take i).all (fun b => p b.toNat) = true) (hc : p s[i].toNat = false) : lead p s = i := by
  refine tw_stop _ _ _ ha ?_ (by rw [dat_len]; omega)
  intro x hx
  have h2 : s.data.toList[i]? = some s[i] := by
    rw [List.getElem?_eq_getElem (by rw [dat_len]; exact h)]; rfl
  rw [h2] at hx
  cases hx
  exact hc
theorem lead_all {p : Nat → Bool} {s : ByteArray} {i : Nat} (h : ¬ i < s.size) (ha : (s.data.toList.take i).all (fun b => p b.toNat) = true) : lead p s = s.size := by
  rw [List.take_of_length_le (by rw [dat_len]; omega)] at ha
  unfold lead
  have key : ∀ l : List UInt8, l.all (fun b => p b.toNat) = true → l.takeWhile (fun b => p b.toNat) = l := by
    intro l
    induction l with
    | nil => intro _; rfl
    | cons x l ih =>
      intro h
      rw [List.all_cons, Bool.and_eq_true] at h
      rw [List.takeWhile_cons, if_pos h.1, ih h.2]
  rw [key _ ha, dat_len]
theorem lead_le (p : Nat → Bool) (s : ByteArray) : lead p s ≤ s.size := by
  unfold lead
  rw [← dat_len s]
  exact List.Sublist.length_le (List.takeWhile_sublist _)
theorem led_take {p : Nat → Bool} {s : ByteArray} {k : Nat} (h : k < s.size) (ha : (s.data.toList.take k).all (fun b => p b.toNat) = true) (hc : p s[k].toNat = true) : (s.data.toList.take (k + 1)).all (fun b => p b.toNat) = true := by
  rw [dat_take s k h, List.all_append, ha, Bool.true_and]
  simp [hc]
set_option maxHeartbeats 1600000 in
set_option maxRecDepth 100000 in
/-- signsAhead over a function that tells bytes of one sign apart and takes no greater rune. -/
theorem signsAhead_any (F : Nat) (p : Nat → Bool) (eg : ∀ args w, (callFunc F args).run Tryd.prog w = .ok (.enter F args) w)
    (hF : ∀ (r : Nat) (W : World), Calls Tryd.prog F (#[.int .i32 (r : Int)] ++ #[]) W fun e w' => e = .returned (.bool (p r)) ∧ w' = W) (hp : ∀ r, 128 ≤ r → p r = false)
    (s : ByteArray) (w : World) (_hs : s.size ≤ 1048576) :
    Calls Tryd.prog 68 #[.string s, .func (.func F) #[] #[]] w fun e w' => e = .returned (.int .i64 (lead p s : Nat)) ∧ Below w.heap.size w w' := by
  have HP := hid hp
  clear hp
  go_enter Tryd.func68, Tryd.ntmps68
  go_wp2
  go_loopw [5, 6] (fun _ _ wr => ∃ pos : Nat, pos ≤ s.size ∧ Hid ((s.data.toList.take pos).all (fun b => p b.toNat) = true) ∧ wr.heap[w.heap.size]? = some (.stringIter s pos) ∧ Below w.heap.size w wr) (fun _ _ wr => s.size - wr.iterPos w.heap.size)
  case atStart => exact ⟨0, Nat.zero_le _, rfl, by simpa using World.iter_heap w s 0, bpush (bre _) _⟩
  case round =>
    obtain ⟨pos, hle, HA, hit, hbw⟩ := hrel
    have HB := hid hbw
    clear hbw
    by_cases hlt : pos < s.size
    · obtain ⟨r, hr⟩ : ∃ r : Nat, (Utf8.decode s pos).1 = r := ⟨_, rfl⟩
      obtain ⟨d, hd⟩ : ∃ d : Nat, (Utf8.decode s pos).2 = d := ⟨_, rfl⟩
      have hnx : ∀ ty, (Instr.next (.pointer (some ⟨w.heap.size, 0, none⟩)) true ty).run Tryd.prog wr = _ := fun ty => Lib.run_next_any_at wr w.heap.size s pos ty hit hlt
      rw [hr, hd] at hnx
      have hit2 := Lib.iterAt_heap wr w.heap.size s pos (pos + d) hit
      have HB2 := hid (Lib.below_iterAt HB.out (Nat.le_refl _) s (pos + d))
      have HR : Hid (p r = p s[pos].toNat ∧ (p r = true → d = 1)) := by
        by_cases h1 : s[pos].toNat < 128
        · have h2 := decode_ascii s pos hlt h1
          rw [h2] at hr hd
          simp only at hr hd
          subst hr hd
          exact ⟨rfl, fun _ => rfl⟩
        · have h2 := (decode_high s pos hlt (by omega)).1
          rw [hr] at h2
          have h3 := HP.out r h2
          exact ⟨by rw [h3, HP.out _ (by omega)], fun h => by rw [h3] at h; cases h⟩
      clear hr hd
      obtain ⟨c, hc⟩ : ∃ c, p r = c := ⟨_, rfl⟩
      rw [hc] at HR
      have HC := hid hc
      clear hc
      go_wp2_with fail
      refine (hF r _).mono ?_; rintro e w1 ⟨rfl, rfl⟩
      rw [HC.out]
      cases c with
      | true =>
        have hd1 := HR.out.2 rfl
        subst hd1
        have HN := hid (led_take hlt HA.out HR.out.1.symm)
        go_wp2
        go_roundw
        case rel => exact ⟨pos + 1, by omega, HN.out, hit2, HB2.out⟩
        case measure =>
          have e1 : ((wr.iterAt w.heap.size s (pos + 1)).iterPos w.heap.size) = pos + 1 := by simp only [World.iterPos, hit2]
          have e2 : wr.iterPos w.heap.size = pos := by simp only [World.iterPos, hit]
          rw [e1, e2]
          omega
      | false =>
        have HN := hid (lead_stop hlt HA.out HR.out.1.symm)
        go_wp2
        go_ret
        exact ⟨by rw [HN.out]; rfl, HB2.out⟩
    · have hnx : ∀ ty, (Instr.next (.pointer (some ⟨w.heap.size, 0, none⟩)) true ty).run Tryd.prog wr = _ := fun ty => Lib.run_next_end_at wr w.heap.size s pos ty hit hlt
      have HN := hid (lead_all hlt HA.out)
      go_wp2
      go_ret
      exact ⟨by rw [HN.out]; rfl, HB.out⟩
theorem figureSign_any (r : Int) (w : World) : Calls Tryd.prog 69 #[.int .i32 r] w fun e w' => e = .returned (.bool (decide (48 ≤ r) && decide (r ≤ 57))) ∧ w' = w := by
  by_cases h1 : 48 ≤ r
  · have HD : Hid ((decide (48 ≤ r) && decide (r ≤ 57)) = decide (r ≤ 57)) := hid (by rw [decide_eq_true h1, Bool.true_and])
    rw [HD.out]
    go_enter Tryd.func69, Tryd.ntmps69
    go_wp2
    go_ret
    exact ⟨rfl, rfl⟩
  · have HD : Hid ((decide (48 ≤ r) && decide (r ≤ 57)) = false) := hid (by rw [decide_eq_false h1, Bool.false_and])
    rw [HD.out]
    go_enter Tryd.func69, Tryd.ntmps69
    go_wp2
    go_ret
    exact ⟨rfl, rfl⟩
def fg (b : UInt8) : Bool := decide (48 ≤ b.toNat) && decide (b.toNat ≤ 57)
def fga (s : ByteArray) : Nat := lead (fun r => decide (48 ≤ (r : Int)) && decide ((r : Int) ≤ 57)) s
theorem fga_any (s : ByteArray) (w : World) (hs : s.size ≤ 1048576) :
    Calls Tryd.prog 68 #[.string s, .func (.func 69) #[] #[]] w fun e w' => e = .returned (.int .i64 (fga s : Nat)) ∧ Below w.heap.size w w' :=
  signsAhead_any 69 (fun r => decide (48 ≤ (r : Int)) && decide ((r : Int) ≤ 57)) (enters_of Tryd.func69 (by kernel_rfl) rfl) (fun r W => figureSign_any r W) (fun r h => by simp; omega) s w hs
/-- The number that figures make. -/
def vlf (n : Nat) (l : List UInt8) : Nat := l.foldl (fun n b => 10 * n + b.toNat - 48) n
theorem vlf_snoc (n : Nat) (l : List UInt8) (b : UInt8) : vlf n (l ++ [b]) = 10 * vlf n l + b.toNat - 48 := by unfold vlf; rw [List.foldl_append]; rfl
theorem vlf_le4 (l : List UInt8) (hl : l.length ≤ 4) (h : ∀ b ∈ l, 48 ≤ b.toNat ∧ b.toNat ≤ 57) : vlf 0 l ≤ 9999 := by
  rcases l with _ | ⟨x, _ | ⟨y, _ | ⟨z, _ | ⟨u, _ | ⟨v, L⟩⟩⟩⟩⟩
  · simp [vlf]
  · have := h x (by simp)
    simp only [vlf, List.foldl_cons, List.foldl_nil]
    omega
  · have := h x (by simp)
    have := h y (by simp)
    simp only [vlf, List.foldl_cons, List.foldl_nil]
    omega
  · have := h x (by simp)
    have := h y (by simp)
    have := h z (by simp)
    simp only [vlf, List.foldl_cons, List.foldl_nil]
    omega
  · have := h x (by simp)
    have := h y (by simp)
    have := h z (by simp)
    have := h u (by simp)
    simp only [vlf, List.foldl_cons, List.foldl_nil]
    omega
  · simp at hl
theorem fga_le (s : ByteArray) : fga s ≤ s.size := lead_le _ s
theorem twf_all {α : Type} (q : α → Bool) : ∀ l : List α, (l.takeWhile q).length = l.length → ∀ x ∈ l, q x = true
  | [], _, x, hx => by cases hx
  | y :: l, h, x, hx => by
    rw [List.takeWhile_cons] at h
    by_cases hy : q y = true
    · rw [if_pos hy] at h
      simp only [List.length_cons, Nat.add_right_cancel_iff] at h
      rcases List.mem_cons.1 hx with rfl | hx
      · exact hy
      · exact twf_all q l h x hx
    · rw [if_neg hy] at h; simp at h
theorem allf_tw {α : Type} (q : α → Bool) : ∀ l : List α, (∀ x ∈ l, q x = true) → (l.takeWhile q).length = l.length
  | [], _ => rfl
  | y :: l, h => by rw [List.takeWhile_cons, if_pos (h y (by simp)), List.length_cons, List.length_cons, allf_tw q l (fun x hx => h x (List.mem_cons_of_mem _ hx))]
/-- All bytes are figures, or a sign stands among them that is none. -/
theorem fga_all (s : ByteArray) (h : ∀ b ∈ s.data.toList, 48 ≤ b.toNat ∧ b.toNat ≤ 57) : fga s = s.size := by
  unfold fga lead
  rw [allf_tw _ _ (fun b hb => by have := h b hb; simp; omega), dat_len]
theorem fga_figs (s : ByteArray) (h : fga s = s.size) : ∀ b ∈ s.data.toList, 48 ≤ b.toNat ∧ b.toNat ≤ 57 := by
  intro b hb
  have := twf_all (fun b : UInt8 => (fun r : Nat => decide (48 ≤ (r : Int)) && decide ((r : Int) ≤ 57)) b.toNat) s.data.toList (by rw [dat_len]; exact h) b hb
  simp only [Bool.and_eq_true, decide_eq_true_eq] at this
  omega
theorem ne_emp {s : ByteArray} (h : 0 < s.size) : s.toList.isEmpty = false := by
  rw [ByteArray.toList_eq]
  cases hl : s.data.toList with
  | nil => have h := dat_len s; rw [hl] at h; simp at h; omega
  | cons => rfl
set_option maxHeartbeats 1600000 in
set_option maxRecDepth 100000 in
theorem fewFigures_bad (s : ByteArray) (most : Nat) (mi : Int) (hmi : mi = (most : Int)) (w : World) (hs : s.size = 0 ∨ most < s.size ∨ fga s < s.size) (hm : s.size ≤ 1048576) :
    Calls Tryd.prog 64 #[.string s, .int .i64 mi] w fun e w' => e = .returned (.tuple #[.int .i64 0, .bool false]) ∧ Below w.heap.size w w' := by
  subst hmi
  by_cases h0 : s.size = 0
  · have hx0 : s = ⟨#[]⟩ := by
      cases s; simp only [ByteArray.mk.injEq]; simpa [ByteArray.size] using h0
    clear hs hm h0
    subst hx0
    go_enter Tryd.func64, Tryd.ntmps64
    go_wp2
    go_ret2
    exact ⟨rfl, bre _⟩
  · by_cases h1 : most < s.size
    · have hi : (most : Int) < (s.size : Int) := by omega
      have hne := ne_emp (s := s) (by omega)
      clear h0 hs h1
      go_enter Tryd.func64, Tryd.ntmps64
      go_wp2
      go_ret2
      exact ⟨rfl, bre _⟩
    · have h2 : fga s < s.size := by omega
      have hi : ¬ (most : Int) < (s.size : Int) := by omega
      have hne := ne_emp (s := s) (by omega)
      have HF := hid (fga_any s w hm)
      obtain ⟨k, hk⟩ : ∃ k, fga s = k := ⟨_, rfl⟩
      rw [hk] at HF h2
      have hj : (k : Int) < (s.size : Int) := by omega
      clear h0 hs h1 h2 hk
      go_enter Tryd.func64, Tryd.ntmps64
      go_wp2_with fail
      refine HF.out.mono ?_; rintro e w1 ⟨rfl, hb⟩
      have HB := hid hb
      clear hb
      go_wp2
      go_ret2
      exact ⟨rfl, HB.out⟩
set_option maxHeartbeats 1600000 in
set_option maxRecDepth 100000 in
theorem fewFigures_any (s : ByteArray) (most : Nat) (mi : Int) (hmi : mi = (most : Int)) (w : World) (h0 : 0 < s.size) (hs : s.size ≤ most) (h4 : most ≤ 4) (hf : ∀ b ∈ s.data.toList, 48 ≤ b.toNat ∧ b.toNat ≤ 57) :
    Calls Tryd.prog 64 #[.string s, .int .i64 mi] w fun e w' => e = .returned (.tuple #[.int .i64 ((vlf 0 s.data.toList : Nat) : Int), .bool true]) ∧ Below w.heap.size w w' := by
  subst hmi
  have hne := ne_emp h0
  clear h0
  have HFG := hid hf
  have hi : ¬ (most : Int) < (s.size : Int) := by omega
  have HF := hid (fun W => fga_any s W (by omega))
  rw [fga_all s hf] at HF
  have HS4 := hid (Nat.le_trans hs h4)
  clear hf hs h4
  go_enter Tryd.func64, Tryd.ntmps64
  go_wp2_with fail
  refine (HF.out _).mono ?_; rintro e w1 ⟨rfl, hb0⟩
  have HB0 := hid hb0
  clear hb0
  go_wp2
  go_loopw [6, 8] (fun nv _ wr => ∃ (pos n : Nat), pos ≤ s.size ∧ nv = .int .i64 (n : Int) ∧ Hid (n = vlf 0 (s.data.toList.take pos)) ∧ wr.heap[w1.heap.size]? = some (.stringIter s pos) ∧ Below w1.heap.size w1 wr) (fun _ _ wr => s.size - wr.iterPos w1.heap.size)
  case atStart => exact ⟨0, 0, Nat.zero_le _, rfl, rfl, by simpa using World.iter_heap w1 s 0, bpush (bre _) _⟩
  case round =>
    obtain ⟨pos, n, hle, rfl, HN, hit, hbw⟩ := hrel
    have HB := hid hbw
    clear hbw
    have hn9 : n ≤ 9999 := by
      rw [HN.out]
      exact vlf_le4 _ (by have := HS4.out; rw [List.length_take, dat_len]; omega) (fun b hb => HFG.out b (List.mem_of_mem_take hb))
    by_cases hlt : pos < s.size
    · obtain ⟨r, hr⟩ : ∃ r : Nat, (Utf8.decode s pos).1 = r := ⟨_, rfl⟩
      obtain ⟨d, hd⟩ : ∃ d : Nat, (Utf8.decode s pos).2 = d := ⟨_, rfl⟩
      have hnx : ∀ ty, (Instr.next (.pointer (some ⟨w1.heap.size, 0, none⟩)) true ty).run Tryd.prog wr = _ := fun ty => Lib.run_next_any_at wr w1.heap.size s pos ty hit hlt
      rw [hr, hd] at hnx
      have hit2 := Lib.iterAt_heap wr w1.heap.size s pos (pos + d) hit
      have HB2 := hid (Lib.below_iterAt HB.out (Nat.le_refl _) s (pos + d))
      have hfig : 48 ≤ s[pos].toNat ∧ s[pos].toNat ≤ 57 := HFG.out _ (by rw [show s[pos] = s.data.toList[pos]'(by rw [dat_len]; exact hlt) from rfl]; exact List.getElem_mem _)
      have h2 := decode_ascii s pos hlt (by omega)
      rw [h2] at hr hd
      simp only at hr hd
      subst hd
      have HNN : Hid (10 * n + r - 48 = vlf 0 (s.data.toList.take (pos + 1))) := hid (by rw [dat_take s pos hlt, vlf_snoc, ← HN.out, hr])
      rw [hr] at hfig
      clear hr h2
      go_wp2
      go_roundw
      case rel => exact ⟨pos + 1, 10 * n + r - 48, by omega, by go_num, HNN.out, hit2, HB2.out⟩
      case measure =>
        have e1 : ((wr.iterAt w1.heap.size s (pos + 1)).iterPos w1.heap.size) = pos + 1 := by simp only [World.iterPos, hit2]
        have e2 : wr.iterPos w1.heap.size = pos := by simp only [World.iterPos, hit]
        rw [e1, e2]
        omega
    · have hnx : ∀ ty, (Instr.next (.pointer (some ⟨w1.heap.size, 0, none⟩)) true ty).run Tryd.prog wr = _ := fun ty => Lib.run_next_end_at wr w1.heap.size s pos ty hit hlt
      have HNN : Hid (vlf 0 s.data.toList = n) := hid (by rw [HN.out, List.take_of_length_le (by rw [dat_len]; omega)])
      go_wp2
      go_ret2
      exact ⟨by rw [HNN.out]; rfl, btr HB0.out HB.out⟩
end Go.Proofs.YtkbiebacbebdnaaDoor
