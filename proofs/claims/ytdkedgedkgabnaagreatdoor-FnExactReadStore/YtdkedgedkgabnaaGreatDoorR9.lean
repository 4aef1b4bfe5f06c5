/- Sok, Seq. -/
import Derived.Test.YtdkedgedkgabnaaGreatDoorR8
namespace Go.Proofs.YtdkedgedkgabnaaGreatDoor
open Go.RowKit Go.ChangeMaps
def bxx (x : X7) : Bool := bxOk x.1 x.2.1 x.2.2.1 x.2.2.2.1 x.2.2.2.2.1 x.2.2.2.2.2.1 x.2.2.2.2.2.2
def pg (S : List X7) (i : Nat) : Int := lst 0 ((S.take i).map (fun x => x.1))
def stp7 (tm : Int) (G : List Int) (S : List X7) (i : Nat) : Bool :=
 match S[i]? with
 | none => true
 | some x => bxx x && (decide (pg S i < x.1) && (decide (fidx (isN x.2.1) S 0 = (i : Int)) && (!inl x.1 G && tmOk tm x.2.2.1 x.2.2.2.2.2.1)))
def gids (S : List X7) : List Int := S.flatMap (fun x => x.2.2.2.2.2.1.map (fun m => m.1))
def sOk (y tm : Int) (S : List X7) (G : List Int) : Bool :=
 (decide (1 ≤ y) && decide (y ≤ 2)) && ((decide (0 ≤ tm) && decide (tm ≤ 100000)) && (decide ((S.length : Int) ≤ 5) && (gnM 20 G && ((List.range S.length).all (stp7 tm G S) && decide (gids S).Nodup))))
theorem pg_zero (S : List X7) : pg S 0 = 0 := rfl
theorem pg_succ {S : List X7} {i : Nat} (h : i < S.length) : pg S (i + 1) = S[i].1 := by
 unfold pg
 rw [List.map_take]
 have := lst_take (G := S.map (fun x => x.1)) (i := i) (by simpa using h)
 rw [this, List.getElem_map]
theorem stp7_at {tm : Int} {G : List Int} {S : List X7} {i : Nat} (h : i < S.length) {x : X7} (hx : S[i] = x) : stp7 tm G S i = (bxx x && (decide (pg S i < x.1) && (decide (fidx (isN x.2.1) S 0 = (i : Int)) && (!inl x.1 G && tmOk tm x.2.2.1 x.2.2.2.2.2.1)))) := by
 unfold stp7
 rw [List.getElem?_eq_getElem h, hx]
theorem gids_take {S : List X7} {i : Nat} (h : i < S.length) : gids (S.take (i + 1)) = gids (S.take i) ++ S[i].2.2.2.2.2.1.map (fun m => m.1) := by
 unfold gids
 rw [List.take_succ_eq_append_getElem h, List.flatMap_append]
 simp
theorem gids_small {tm : Int} {G : List Int} {S : List X7} : ∀ {i : Nat}, (∀ j, j < i → j < S.length → stp7 tm G S j = true) → i ≤ S.length → (gids (S.take i)).length ≤ 10 * i := by
 intro i
 induction i with
 | zero => intro _ _; simp [gids]
 | succ i ih =>
  intro h hi
  have h1 := ih (fun j hj hl => h j (by omega) hl) (by omega)
  rw [gids_take (by omega), List.length_append, List.length_map]
  have h2 := h i (by omega) (by omega)
  rw [stp7_at (by omega) rfl] at h2
  simp only [Bool.and_eq_true] at h2
  have h3 := (bx_parts (show bxOk _ _ _ _ _ _ _ = true from h2.1)).1
  omega
theorem map_take_snoc {L : List M4} {k : Nat} (h : k < L.length) : (L.take k).map (fun m => m.1) ++ [L[k].1] = (L.take (k + 1)).map (fun m => m.1) := by
 rw [List.take_succ_eq_append_getElem h, List.map_append]
 rfl
theorem inl_iff {x : Int} {G : List Int} : inl x G = true ↔ x ∈ G := by
 induction G with
 | nil => simp [inl]
 | cons a G ih => simp only [inl, Bool.or_eq_true, decide_eq_true_eq, ih, List.mem_cons]; constructor <;> (rintro (h | h); exact .inl h.symm; exact .inr h)
theorem nodup_snoc {P : List Int} {x : Int} (h : P.Nodup) (hx : inl x P = false) : (P ++ [x]).Nodup := by
 rw [List.nodup_append]
 refine ⟨h, by simp, fun a ha b hb e => ?_⟩
 simp only [List.mem_cons, List.not_mem_nil, or_false] at hb
 subst hb
 subst e
 rw [inl_iff.2 ha] at hx
 cases hx
theorem gids_dup {S : List X7} {i k : Nat} {L : List M4} (h : i < S.length) (hk : k < L.length) (hL : S[i].2.2.2.2.2.1 = L) (hx : inl L[k].1 (gids (S.take i) ++ (L.take k).map (fun m => m.1)) = true) : decide (gids S).Nodup = false := by
 simp only [decide_eq_false_iff_not]
 intro hn
 have e1 : gids S = gids (S.take (i + 1)) ++ gids (S.drop (i + 1)) := by
  unfold gids
  rw [← List.flatMap_append, List.take_append_drop]
 have e2 : L.map (fun m => m.1) = (L.take k).map (fun m => m.1) ++ ([L[k].1] ++ (L.drop (k + 1)).map (fun m => m.1)) := by
  conv => lhs; rw [← List.take_append_drop k L, List.drop_eq_getElem_cons hk]
  rw [List.map_append, List.map_cons]
  rfl
 rw [e1, gids_take h, hL, e2] at hn
 rw [← List.append_assoc, List.append_assoc, List.nodup_append] at hn
 exact hn.2.2 _ (inl_iff.1 hx) _ (by simp) rfl
theorem cell_one_i (w : World) (n : Int) (e : Nat) : ∀ j u, ([.int .i64 n] : List Value)[j]? = some u → (w.alloc (.cells #[.int .i64 n] e)).cell? ((⟨w.heap.size, 0, none⟩ : Addr).add j) = some u := by
 intro j u hj
 match j, hj with
 | 0, hj =>
  simp only [List.getElem?_cons_zero, Option.some.injEq] at hj
  subst hj
  exact cell_of_row _ w.heap.size 0 _ _ _ (heap_alloc_new w _)
 | j + 1, hj => simp at hj
theorem wpList_append_ik (w : World) {ops : Array Oper} {rest : List Oper} {o : Oper} {a : Act} {Q : Exit → Act → World → Prop} (hgd : o.guard = none) (s x : Operand)
  (ho : o.op = .call { callee := .builtin .append, args := #[s, x], argTypes := #[25, 25] })
  (base : Nat) (v : Value) (bs : List Int) (hs : a.eval s = v) (hown : OwI w base v bs) (n : Int)
  (hx : a.eval x = .slice (some ⟨w.heap.size, 0, none⟩) 1 1) (hlen : bs.length ≤ 1048576) (hbase : base ≤ w.heap.size)
  (h : ∀ v' w', OwI w' base v' (bs ++ [n]) → (w.alloc (.cells #[.int .i64 n] 3)).grownBy w' v.ownBlock → (∀ j, v'.ownBlock = some j → v.ownBlock = some j ∨ w.heap.size < j) → wpList Tryz.prog ops Q rest (a.put o.dst v') w') :
  wpList Tryz.prog ops Q (o :: rest) a (w.alloc (.cells #[.int .i64 n] 3)) := by
 obtain ⟨i0, hi, hz0, hz1, hz2⟩ := info_parts3 info_int
 refine wpList_append_own_at _ hgd s x 25 ho base 3 i0 (.int .i64 0) 1 8 Tryz.underlying25 hi hz0 hz1 hz2 rfl (by decide) v _ _ hs (hown.alloc _) ⟨w.heap.size, 0, none⟩ 1 1 [.int .i64 n] hx rfl (cell_one_i _ _ _) (by intro u hu; simp at hu; subst hu; rfl) (by unfold maxLen; omega) (by omega) (by simp; omega) ?_
 intro v' w' hown' hg _ h5
 exact h v' w' (by simpa [OwI] using hown') hg (fun j hj => by
   rcases h5 with h5 | h5
   · exact .inl (by rw [← h5]; exact hj)
   · rw [h5] at hj; simp at hj; exact .inr (by omega))
set_option maxHeartbeats 16000000 in
set_option maxRecDepth 100000 in
theorem specStoreOk_any (lo hi lo' hi' : Nat) (y tm : Int) (ba : Option Addr) (bn bc : Nat) (ga : Option Addr) (gn gc : Nat) (S : List X7) (G : List Int) (w : World) (hl : S.length = bn) (hn : bn ≤ 1048576) (hsb : Sb S) (hm : Bs lo hi w ba S) (hgl : G.length = gn) (hgn : gn ≤ 1048576) (hs : Is lo' hi' w ga G) :
  Calls Tryz.prog 17 #[.agg #[.int .i64 y, .int .i64 tm, .slice ba bn bc, .slice ga gn gc]] w fun e w' => e = .returned (.bool (sOk y tm S G)) ∧ Below w.heap.size w w' := by
 obtain ⟨p1, hp1, cp1⟩ := in_range y 1 2
 obtain ⟨p2, hp2, cp2⟩ := in_range tm 0 100000
 obtain ⟨p6, hp6⟩ : ∃ p6, gnM 20 G = p6 := ⟨_, rfl⟩
 have HX : Hid (sOk y tm S G = (p1 && (p2 && (decide ((bn : Int) ≤ 5) && (p6 && ((List.range S.length).all (stp7 tm G S) && decide (gids S).Nodup)))))) := by show _ = _; rw [hp1.out, hp2.out, ← hp6, ← hl]; rfl
 obtain ⟨W0, hW0⟩ : ∃ W0, w.alloc (.cells #[.int .i64 y, .int .i64 tm, .slice ba bn bc, .slice ga gn gc] 27) = W0 := ⟨_, rfl⟩
 have a0 : Sx W0 w.heap.size 27 y tm (.slice ba bn bc) (.slice ga gn gc) := by subst hW0; exact Sx.new w _ y tm _ _
 have b0 : Below w.heap.size w W0 := by subst hW0; exact bpush (bre _) _
 have c0 := a0.cells
 have HP6 := hid hp6
 have HL := hid hl
 have HN := hid hn
 have HSB := hid hsb
 have HR := hid hm
 have HGL := hid hgl
 have HGN := hid hgn
 have HIS := hid hs
 have A0 := hid a0
 have B0 := hid b0
 clear hp1 hp2 hp6 hl hsb hm hgl hgn hs a0 b0
 go_enter Tryz.func17, Tryz.ntmps17
 go_wp2_with fail
 clear hW0
 refine (cp1.out _).mono ?_; rintro e w1 ⟨rfl, h1⟩
 subst h1
 cases p1
 ·have HE : Hid (sOk y tm S G = false) := by show _ = _; rw [HX.out]; rfl
  go_wp2
  go_ret
  exact ⟨by rw [HE.out]; rfl, B0.out⟩
 go_wp2_with fail
 refine (cp2.out _).mono ?_; rintro e w2 ⟨rfl, h2⟩
 subst h2
 cases p2
 ·have HE : Hid (sOk y tm S G = false) := by show _ = _; rw [HX.out]; rfl
  go_wp2
  go_ret
  exact ⟨by rw [HE.out]; rfl, B0.out⟩
 by_cases h5 : (bn : Int) ≤ 5
 case neg =>
  have HE : Hid (sOk y tm S G = false) := by show _ = _; rw [HX.out]; simp [h5]
  have h6 : (5 : Int) < (bn : Int) := by omega
  go_wp2
  go_ret
  exact ⟨by rw [HE.out]; rfl, B0.out⟩
 have h6 : ¬ (5 : Int) < (bn : Int) := by omega
 have HFIVE : Hid (bn ≤ 5) := by show _ ≤ _; omega
 go_wp2_with fail
 refine (l06SortedM_any 20 lo' hi' ga gn gc G _ HGL.out HGN.out (HIS.out.later B0.out)).mono ?_; rintro e w5 ⟨rfl, hb5⟩
 rw [HP6.out]
 have a5 := A0.out.later hb5
 have A5 := hid a5
 have B5 := hid (btr B0.out hb5)
 have c0 := a5.cells
 clear a5 hb5 A0 B0
 cases p6
 ·have HE : Hid (sOk y tm S G = false) := by show _ = _; rw [HX.out]; simp
  go_wp2
  go_ret
  exact ⟨by rw [HE.out]; rfl, B5.out⟩
 have HX : Hid (sOk y tm S G = ((List.range S.length).all (stp7 tm G S) && decide (gids S).Nodup)) := by show _ = _; rw [HX.out]; simp [h5]
 have HSZ0 : Hid (w.heap.size + 1 ≤ w5.heap.size) := A5.out.lt
 go_wp2
 clear h5 h6 cp1 cp2 HP6 c0
 go_loopw [3, 4] (fun vv iv wq => ∃ (i : Nat), i ≤ bn ∧ iv = .int .i64 (i : Int) ∧ Hid (∀ j, j < i → j < S.length → stp7 tm G S j = true) ∧ Hid ((gids (S.take i)).Nodup) ∧ OwI wq (w.heap.size + 1) vv (gids (S.take i)) ∧ Sx wq w.heap.size 27 y tm (.slice ba bn bc) (.slice ga gn gc) ∧ Below w.heap.size w wq) (fun _ iv _ => bn - (intOf iv).toNat)
 case atStart => exact ⟨0, Nat.zero_le _, rfl, fun j hj => absurd hj (Nat.not_lt_zero _), by show List.Nodup _; simp [gids], by simpa [gids] using ownI_empty w5 (w.heap.size + 1) HSZ0.out, A5.out.later (bpush (bre _) _), btr B5.out (bpush (bre _) _)⟩
 case round =>
  obtain ⟨i, hin, rfl, HA, HND, hown, hsx, hb⟩ := hrel
  obtain ⟨vv, hvv⟩ : ∃ vv, vv = u3 := ⟨_, rfl⟩
  subst hvv
  obtain ⟨wq, hwq⟩ : ∃ wq, wq = wr := ⟨_, rfl⟩
  subst hwq
  have HB := hid hb
  have HOW := hid hown
  have A6 := hid hsx
  have c0 := hsx.cells
  have hbn := HFIVE.out
  clear hb hown hsx
  by_cases hlt : i < bn
  ·have hil : i < S.length := by rw [HL.out]; exact hlt
   obtain ⟨k, o, ma1, mc1, ga1, gc1, rfl, hk, d, hms, his, _⟩ := HR.out.at hil
   have hmem := HSB.out S[i] (List.getElem_mem hil)
   obtain ⟨q, hq⟩ : ∃ q, S[i] = q := ⟨_, rfl⟩
   obtain ⟨g1, nm1, t1, b1, nx1, L1, G1⟩ := q
   have HST := hid (stp7_at (tm := tm) (G := G) hil hq)
   rw [hq] at d hms his hmem
   dsimp only at d hms his hmem HST
   obtain ⟨m1, hm1⟩ : ∃ m1, L1.length = m1 := ⟨_, rfl⟩
   obtain ⟨n1, hn1⟩ : ∃ n1, G1.length = n1 := ⟨_, rfl⟩
   rw [hm1, hn1] at d hmem
   have HM1 := hid hm1
   have HN1 := hid hn1
   have HNM := hid hmem.1
   have HML := hid hmem.2.1
   have HSL := hid hmem.2.2.1
   have HNL := hid hmem.2.2.2
   have HMS := hid hms
   have HIS1 := hid his
   have HQ : Hid (S[i].2.2.2.2.2.1 = L1) := by show _ = _; rw [hq]
   obtain ⟨p, hp⟩ : ∃ p, bxOk g1 nm1 t1 b1 nx1 L1 G1 = p := ⟨_, rfl⟩
   obtain ⟨si, hsi⟩ : ∃ si, inl g1 G = si := ⟨_, rfl⟩
   obtain ⟨zn, hzn⟩ : ∃ zn, fidx (isN nm1) S 0 = zn := ⟨_, rfl⟩
   obtain ⟨tkQ, htk⟩ : ∃ tkQ, tmOk tm t1 L1 = tkQ := ⟨_, rfl⟩
   have HP := hid hp
   have HSI := hid hsi
   have HZN := hid hzn
   have HTM := hid htk
   have HP0 : Hid (p = true → 0 < g1) := fun h => by
    have h1 := hp.trans h
    simp only [bxOk, Bool.and_eq_true] at h1
    exact gok_pos h1.1
   have HPM : Hid (p = true → ∀ k2, k2 ≤ m1 → (gids (S.take i) ++ (L1.take k2).map (fun m => m.1)).length ≤ 1048576) := fun hpt k2 hk2 => by
    rw [List.length_append, List.length_map, List.length_take]
    have h1 := gids_small HA.out (by omega)
    have h2 := (bx_parts (hp.trans hpt)).1
    omega
   have hI : (0 : Int) ≤ (i : Int) ∧ (i : Int) < (bn : Int) := by omega
   rw [show bxx (g1, nm1, t1, b1, nx1, L1, G1) = p from hp, HSI.out, HZN.out, HTM.out] at HST
   have d1 := d.later hk HB.out
   have d0 := d1
   unfold C7 at d0
   clear hq hms his hmem hm1 hn1 hp hsi hzn htk d
   go_wp2_with fail
   obtain ⟨W1, hW1⟩ : ∃ W1, wq.alloc (.cells #[.int .i64 g1, .string nm1, .int .i64 t1, .int .i64 b1, .int .i64 nx1, .slice ma1 m1 mc1, .slice ga1 n1 gc1] 38) = W1 := ⟨_, rfl⟩
   have A1 : Hid (Bx W1 wq.heap.size 38 g1 nm1 t1 b1 nx1 (.slice ma1 m1 mc1) (.slice ga1 n1 gc1)) := by subst hW1; exact Bx.new _ _ _ _ _ _ _ _ _
   have B1 : Hid (Below wq.heap.size wq W1) := by subst hW1; exact bpush (bre _) _
   rw [hW1]
   clear hW1 d0 d1
   by_cases h0 : i = 0
   ·have hu0 : pg S i = 0 := by rw [h0]; rfl
    rw [hu0] at HST
    have hpos : ¬ (0 : Int) < (i : Int) := by omega
    have hposN : ¬ 0 < i := by omega
    have HS : Hid (∀ W, Below W1.heap.size W1 W → (W.cell? ⟨w.heap.size, 0, none⟩ = some (.int .i64 y) ∧ W.cell? ⟨w.heap.size, 1, none⟩ = some (.int .i64 tm) ∧ W.cell? ⟨w.heap.size, 2, none⟩ = some (.slice (some ⟨k, o, none⟩) bn bc) ∧ W.cell? ⟨w.heap.size, 3, none⟩ = some (.slice ga gn gc)) ∧ (W.cell? ⟨wq.heap.size, 0, none⟩ = some (.int .i64 g1) ∧ W.cell? ⟨wq.heap.size, 1, none⟩ = some (.string nm1) ∧ W.cell? ⟨wq.heap.size, 2, none⟩ = some (.int .i64 t1) ∧ W.cell? ⟨wq.heap.size, 3, none⟩ = some (.int .i64 b1) ∧ W.cell? ⟨wq.heap.size, 4, none⟩ = some (.int .i64 nx1) ∧ W.cell? ⟨wq.heap.size, 5, none⟩ = some (.slice ma1 m1 mc1) ∧ W.cell? ⟨wq.heap.size, 6, none⟩ = some (.slice ga1 n1 gc1))) := fun W h => ⟨(A6.out.later (btr B1.out h)).cells, (A1.out.later h).cells⟩
    clear h0 hu0 c0 hk
    refine wp_region_noPanic ?_
    refine wp_region_held_drew (S := (fun W => (W.cell? ⟨w.heap.size, 0, none⟩ = some (.int .i64 y) ∧ W.cell? ⟨w.heap.size, 1, none⟩ = some (.int .i64 tm) ∧ W.cell? ⟨w.heap.size, 2, none⟩ = some (.slice (some ⟨k, o, none⟩) bn bc) ∧ W.cell? ⟨w.heap.size, 3, none⟩ = some (.slice ga gn gc)) ∧ (W.cell? ⟨wq.heap.size, 0, none⟩ = some (.int .i64 g1) ∧ W.cell? ⟨wq.heap.size, 1, none⟩ = some (.string nm1) ∧ W.cell? ⟨wq.heap.size, 2, none⟩ = some (.int .i64 t1) ∧ W.cell? ⟨wq.heap.size, 3, none⟩ = some (.int .i64 b1) ∧ W.cell? ⟨wq.heap.size, 4, none⟩ = some (.int .i64 nx1) ∧ W.cell? ⟨wq.heap.size, 5, none⟩ = some (.slice ma1 m1 mc1) ∧ W.cell? ⟨wq.heap.size, 6, none⟩ = some (.slice ga1 n1 gc1)))) (by kernel_rfl) (HS.out _ (bdr (bre _))) (fun hHeld => ?_)
    refine tk 0 ?_
    clear hHeld
    refine ry 1 (fun K hK => ?_)
    go_simp
    refine (specBoxOk_any lo hi lo hi g1 nm1 t1 b1 nx1 ma1 m1 mc1 ga1 n1 gc1 L1 G1 _ HNM.out HM1.out HML.out HSL.out (HMS.out.later (btr HB.out (btr B1.out bb))) HN1.out HNL.out (HIS1.out.later (btr HB.out (btr B1.out bb)))).mono ?_; rintro e w2 ⟨rfl, hb2⟩
    rw [HP.out]
    go_wp2_with fail
    refine hK.out _ _ (HS.out _ bb) (fun hHeld => ?_)
    clear hK K
    try simp only [Act.put, tp2, tp3, tp4]
    cases p
    ·refine tk 2 ?_
     refine tk 3 ?_
     refine tn 4 ?_
     refine tn 5 ?_
     refine tn 6 ?_
     refine tn 7 ?_
     refine tn 8 ?_
     refine tn 9 ?_
     refine tn 10 ?_
     refine tn 11 ?_
     refine tn 12 ?_
     refine tn 13 ?_
     refine tn 14 ?_
     refine tn 15 ?_
     refine tn 16 ?_
     refine tn 17 ?_
     refine tk 18 ?_
     refine tk 19 ?_
     refine tn 20 ?_
     refine tn 21 ?_
     refine tn 22 ?_
     refine tn 24 ?_
     refine tn 23 ?_
     refine tn 25 ?_
     refine tk 26 ?_
     refine tk 27 ?_
     refine tn 28 ?_
     refine tn 29 ?_
     refine tn 30 ?_
     refine tn 31 ?_
     refine tn 32 ?_
     refine tk 33 ?_
     refine tk 34 ?_
     refine tn 35 ?_
     refine tn 36 ?_
     refine tn 37 ?_
     refine tn 38 ?_
     refine tn 39 ?_
     refine tk 40 ?_
     refine wpAnyH_done (by kernel_rfl) ?_ _
     refine NoPanic.normal ?_
     have HE : Hid (sOk y tm S G = false) := by show _ = _; rw [HX.out, all_no (S := List.range S.length) (i := i) (by simpa using hil) (by rw [List.getElem_range, HST.out]; rfl), Bool.false_and]
     clear hHeld
     go_wp2
     go_ret
     exact ⟨by rw [HE.out]; rfl, btr HB.out (btr B1.out bb)⟩
    ·refine tk 2 ?_
     refine tk 3 ?_
     refine tk 4 ?_
     ·refine tk 5 ?_
      refine tk 6 ?_
      refine tn 7 ?_
      refine tn 8 ?_
      refine tn 9 ?_
      refine tn 10 ?_
      refine tn 11 ?_
      refine tn 12 ?_
      refine tn 13 ?_
      refine tn 14 ?_
      refine tn 15 ?_
      refine tn 16 ?_
      refine tk 17 ?_
      refine tk 18 ?_
      refine tk 19 ?_
      refine tk 20 ?_
      refine tk 21 ?_
      refine tk 22 ?_
      refine tk 24 ?_
      clear hHeld
      refine ry 23 (fun K hK => ?_)
      go_simp
      refine (specBoxNamed_any lo hi y tm (some ⟨k, o, none⟩) bn bc (.slice ga gn gc) S nm1 _ HL.out HN.out (HR.out.later (btr HB.out (btr B1.out bb)))).mono ?_; rintro e w3 ⟨rfl, hb3⟩
      rw [HZN.out]
      go_wp2_with fail
      refine hK.out _ _ (HS.out _ bb) (fun hHeld => ?_)
      clear hK K
      try simp only [Act.put, tp2, tp3, tp4]
      by_cases hzn : zn = (i : Int)
      ·have hzn2 : (zn != (i : Int)) = false := by simp [hzn]
       refine tk 25 ?_
       refine tk 26 ?_
       refine tk 27 ?_
       refine tk 28 ?_
       refine tk 29 ?_
       refine tk 30 ?_
       refine tk 31 ?_
       clear hHeld
       refine ry 32 (fun K hK => ?_)
       go_simp
       refine (l06In_any lo' hi' ga gn gc G g1 _ HGL.out HGN.out (HIS.out.later (btr HB.out (btr B1.out bb)))).mono ?_; rintro e w4 ⟨rfl, h4⟩
       subst h4
       rw [HSI.out]
       go_wp2_with fail
       refine hK.out _ _ (HS.out _ bb) (fun hHeld => ?_)
       clear hK K
       try simp only [Act.put, tp2, tp3, tp4]
       cases si
       ·refine tk 33 ?_
        refine tk 34 ?_
        refine tk 35 ?_
        refine tk 36 ?_
        refine tk 37 ?_
        clear hHeld
        refine ry 38 (fun K hK => ?_)
        go_simp
        refine (l07Times_any lo hi g1 nm1 t1 b1 nx1 ma1 m1 mc1 (.slice ga1 n1 gc1) L1 tm _ HM1.out HML.out HSL.out (HMS.out.later (btr HB.out (btr B1.out bb)))).mono ?_; rintro e w5 ⟨rfl, hb5⟩
        rw [HTM.out]
        go_wp2_with fail
        refine hK.out _ _ (HS.out _ bb) (fun hHeld => ?_)
        clear hK K
        try simp only [Act.put, tp2, tp3, tp4]
        cases tkQ
        ·refine tk 39 ?_
         refine tk 40 ?_
         refine wpAnyH_done (by kernel_rfl) ?_ _
         refine NoPanic.normal ?_
         have HE : Hid (sOk y tm S G = false) := by show _ = _; rw [HX.out, all_no (S := List.range S.length) (i := i) (by simpa using hil) (by rw [List.getElem_range, HST.out]; simp), Bool.false_and]
         clear hHeld
         go_wp2
         go_ret
         exact ⟨by rw [HE.out]; rfl, btr HB.out (btr B1.out bb)⟩
        ·refine tk 39 ?_
         refine tk 40 ?_
         refine wpAnyH_done (by kernel_rfl) ?_ _
         refine NoPanic.normal ?_
         have hp0 : 0 < g1 := HP0.out (by first | rfl | trivial)
         have HE : Hid (∀ j, j < i + 1 → j < S.length → stp7 tm G S j = true) := by
          intro j hj h
          by_cases hji : j < i
          ·exact HA.out j hji h
          ·obtain rfl : j = i := by omega
           rw [HST.out]; simp [hp0, hzn]
         have AB : Hid (Bx w5 wq.heap.size 38 g1 nm1 t1 b1 nx1 (.slice ma1 m1 mc1) (.slice ga1 n1 gc1)) := A1.out.later bb
         have HBV : Hid (Below wq.heap.size wq w5) := by show Below _ _ _; refine btr B1.out ?_; repeat (first | exact bre _ | refine bdr ?_ | refine btr ?_ (by assumption))
         have A7 := hid (A6.out.later HBV.out)
         have O7 := hid (own_later HOW.out HBV.out)
         have B7 := hid (btr HB.out HBV.out)
         have HOL : Hid (∀ j, Value.ownBlock vv = some j → j ≠ wq.heap.size) := fun j hj e => by have := (HOW.out.lt j hj).2; omega
         clear hHeld
         go_wp2
         go_loopw [3, 6] (fun vv2 kv wr => ∃ k2 : Nat, k2 ≤ m1 ∧ kv = .int .i64 (k2 : Int) ∧ OwI wr (w.heap.size + 1) vv2 (gids (S.take i) ++ (L1.take k2).map (fun m => m.1)) ∧ Hid ((gids (S.take i) ++ (L1.take k2).map (fun m => m.1)).Nodup) ∧ (∀ j, vv2.ownBlock = some j → j ≠ wq.heap.size) ∧ Bx wr wq.heap.size 38 g1 nm1 t1 b1 nx1 (.slice ma1 m1 mc1) (.slice ga1 n1 gc1) ∧ Below (w.heap.size + 1) w5 wr) (fun _ kv _ => m1 - (intOf kv).toNat)
         case atStart => exact ⟨0, Nat.zero_le _, rfl, by simpa using O7.out, by show List.Nodup _; simpa using HND.out, HOL.out, AB.out, Below.refl _ _⟩
         case round =>
          obtain ⟨k2, hk2, rfl, hown, HND2, hob, hbx, hbl⟩ := hrel
          have HO2 := hid hown
          have HOB := hid hob
          have X2 := hid hbx
          have HBL := hid hbl
          have c1 := hbx.cells
          have hml := HML.out
          have HT : Hid (Below w.heap.size w wr) := B7.out.trans (hbl.mono (by omega))
          have A8 : Hid (Sx wr w.heap.size 27 y tm (.slice (some ⟨k, o, none⟩) bn bc) (.slice ga gn gc)) := (hbl.block w.heap.size (by omega)).trans A7.out
          have HSZ : Hid (w.heap.size + 1 ≤ wr.heap.size) := by show _ ≤ _; have h1 := A8.out.lt; omega
          clear hown hob hbx hbl
          by_cases hkt : k2 < m1
          ·have hkl : k2 < L1.length := by rw [HM1.out]; exact hkt
           obtain ⟨km, om, fa1, fc1, rfl, hkm, cm, _⟩ := (HMS.out.later HT.out).at hkl
           obtain ⟨x1, hx1⟩ : ∃ x1, L1[k2].1 = x1 := ⟨_, rfl⟩
           rw [hx1] at cm
           have cm0 := cm.1
           have HCM := hid cm0
           have HKM := hid hkm
           obtain ⟨va, vc, hvv, _⟩ := HO2.out.shape
           subst hvv
           obtain ⟨np, hnp⟩ : ∃ np, (gids (S.take i) ++ (L1.take k2).map (fun m => m.1)).length = np := ⟨_, rfl⟩
           rw [hnp] at HO2 HOB ⊢
           have HNP := hid hnp
           have HPL : Hid (np ≤ 1048576) := by show _ ≤ _; rw [← hnp]; exact HPM.out (by first | rfl | trivial) k2 (by omega)
           obtain ⟨qq, hqq⟩ : ∃ qq, inl x1 (gids (S.take i) ++ (L1.take k2).map (fun m => m.1)) = qq := ⟨_, rfl⟩
           have HQQ := hid hqq
           have HX1 := hid hx1
           have hK : (0 : Int) ≤ (k2 : Int) ∧ (k2 : Int) < (m1 : Int) := by omega
           clear cm hnp hqq hkm hx1
           go_wp2_with fail
           refine (l06In_any (w.heap.size + 1) wr.heap.size va np vc (gids (S.take i) ++ (L1.take k2).map (fun m => m.1)) x1 _ HNP.out HPL.out (by have h := HO2.out; rw [← HNP.out] at h; exact (OwI.is h).2)).mono ?_; rintro e w6 ⟨rfl, h6⟩
           subst h6
           rw [HQQ.out]
           cases qq
           ·have hnd : ((gids (S.take i) ++ (L1.take k2).map (fun m => m.1)) ++ [x1]).Nodup := nodup_snoc HND2.out HQQ.out
            have HND3 := hid hnd
            clear hnd
            go_wp2_with (at_builtin; refine wpList_append_ik w6 rfl (.tmp 98) (.tmp 105) rfl (w.heap.size + 1) _ (gids (S.take i) ++ (L1.take k2).map (fun m => m.1)) (by rfl) (by have h := HO2.out; exact h) x1 (by rfl) (by rw [HNP.out]; exact HPL.out) HSZ.out ?_; intro v7 w7 hrow7 hg7 hl7; have X7 := hid ((X2.out.later (bpush (bre _) _)).grown hg7 (fun e => HOB.out _ e.symm rfl)); have hl8 := hl7; have O8 := hid hrow7; have L8 : Hid (∀ j, v7.ownBlock = some j → j ≠ wq.heap.size) := (fun j hj e => by rcases hl7 j hj with h | h; exact HOB.out j h e; have := X2.out.lt; omega); have BL8 : Hid (Below (w.heap.size + 1) w5 w7) := HBL.out.trans (((Below.refl _ _).alloc HSZ.out _).grown hg7 (by have := HSZ.out; simp; omega) (fun k hk => (HO2.out.lt k hk).1)); clear hrow7 hg7 hl7 hl8)
            go_roundw
            case rel => exact ⟨k2 + 1, by omega, by go_num, by have h := O8.out; rw [List.append_assoc, ← HX1.out, map_take_snoc hkl] at h; exact h, by have h := HND3.out; rw [List.append_assoc, ← HX1.out, map_take_snoc hkl] at h; exact h, L8.out, X7.out, BL8.out⟩
            case measure => simp [intOf]; omega
           ·have HE2 : Hid (sOk y tm S G = false) := by
             show _ = _
             rw [HX.out, gids_dup hil hkl (by rw [HQ.out]) (by rw [HX1.out]; exact HQQ.out), Bool.and_false]
            go_wp2
            go_ret
            exact ⟨by rw [HE2.out]; rfl, HT.out⟩
          ·have HG : Hid (gids (S.take i) ++ (L1.take k2).map (fun m => m.1) = gids (S.take (i + 1))) := by
            show _ = _
            rw [gids_take hil, HQ.out, List.take_of_length_le (l := L1) (by rw [HM1.out]; omega)]
           rw [HG.out] at HO2 HND2
           go_wp2
           go_roundw
           case rel => exact ⟨i + 1, by omega, by go_num, HE, HND2, HO2.out, A8.out, HT.out⟩
           case measure => simp [intOf]; omega
       ·refine tk 33 ?_
        refine tk 34 ?_
        refine tn 35 ?_
        refine tn 36 ?_
        refine tn 37 ?_
        refine tn 38 ?_
        refine tn 39 ?_
        refine tk 40 ?_
        refine wpAnyH_done (by kernel_rfl) ?_ _
        refine NoPanic.normal ?_
        have HE : Hid (sOk y tm S G = false) := by show _ = _; rw [HX.out, all_no (S := List.range S.length) (i := i) (by simpa using hil) (by rw [List.getElem_range, HST.out]; simp), Bool.false_and]
        clear hHeld
        go_wp2
        go_ret
        exact ⟨by rw [HE.out]; rfl, btr HB.out (btr B1.out bb)⟩
      ·have hzn2 : (zn != (i : Int)) = true := by simp [hzn]
       refine tk 25 ?_
       refine tk 26 ?_
       refine tk 27 ?_
       refine tn 28 ?_
       refine tn 29 ?_
       refine tn 30 ?_
       refine tn 31 ?_
       refine tn 32 ?_
       refine tk 33 ?_
       refine tk 34 ?_
       refine tn 35 ?_
       refine tn 36 ?_
       refine tn 37 ?_
       refine tn 38 ?_
       refine tn 39 ?_
       refine tk 40 ?_
       refine wpAnyH_done (by kernel_rfl) ?_ _
       refine NoPanic.normal ?_
       have HE : Hid (sOk y tm S G = false) := by show _ = _; rw [HX.out, all_no (S := List.range S.length) (i := i) (by simpa using hil) (by rw [List.getElem_range, HST.out]; simp [hzn]), Bool.false_and]
       clear hHeld
       go_wp2
       go_ret
       exact ⟨by rw [HE.out]; rfl, btr HB.out (btr B1.out bb)⟩
   ·obtain ⟨j, hj⟩ : ∃ j : Nat, i = j + 1 := ⟨i - 1, by omega⟩
    have hjl : j < S.length := by omega
    obtain ⟨k', o', ma', mc', ga', gc', e', hk', dj, _⟩ := HR.out.at hjl
    simp only [Option.some.injEq, Addr.mk.injEq, and_true] at e'
    obtain ⟨rfl, rfl⟩ := e'
    obtain ⟨u0, hu0⟩ : ∃ u0, S[j].1 = u0 := ⟨_, rfl⟩
    have huy : pg S i = u0 := by rw [hj, pg_succ hjl, hu0]
    have dj0 := (dj.later hk' HB.out).1
    rw [hu0] at dj0
    rw [huy] at HST
    have hij : (i : Int) - 1 = (j : Int) := by omega
    have hwj : IntKind.i64.wrap (j : Int) = (j : Int) := by rw [IntKind.wrap_i64]; omega
    have hJ : (0 : Int) ≤ (j : Int) ∧ (j : Int) < (bn : Int) := by omega
    have hpos : (0 : Int) < (i : Int) := by omega
    have hposN : 0 < i := by omega
    have hkw : k < wq.heap.size := Nat.lt_of_lt_of_le hk' HB.out.size
    have HS : Hid (∀ W, Below W1.heap.size W1 W → (W.cell? ⟨w.heap.size, 0, none⟩ = some (.int .i64 y) ∧ W.cell? ⟨w.heap.size, 1, none⟩ = some (.int .i64 tm) ∧ W.cell? ⟨w.heap.size, 2, none⟩ = some (.slice (some ⟨k, o, none⟩) bn bc) ∧ W.cell? ⟨w.heap.size, 3, none⟩ = some (.slice ga gn gc)) ∧ (W.cell? ⟨wq.heap.size, 0, none⟩ = some (.int .i64 g1) ∧ W.cell? ⟨wq.heap.size, 1, none⟩ = some (.string nm1) ∧ W.cell? ⟨wq.heap.size, 2, none⟩ = some (.int .i64 t1) ∧ W.cell? ⟨wq.heap.size, 3, none⟩ = some (.int .i64 b1) ∧ W.cell? ⟨wq.heap.size, 4, none⟩ = some (.int .i64 nx1) ∧ W.cell? ⟨wq.heap.size, 5, none⟩ = some (.slice ma1 m1 mc1) ∧ W.cell? ⟨wq.heap.size, 6, none⟩ = some (.slice ga1 n1 gc1)) ∧ W.cell? ⟨k, o + j * 7, none⟩ = some (.int .i64 u0)) := fun W h => ⟨(A6.out.later (btr B1.out h)).cells, (A1.out.later h).cells, ((btr B1.out h).cell (p := ⟨k, _, none⟩) hkw).trans dj0⟩
    clear h0 hj hu0 huy c0 dj dj0 hk hk' hkw
    refine wp_region_noPanic ?_
    refine wp_region_held_drew (S := (fun W => (W.cell? ⟨w.heap.size, 0, none⟩ = some (.int .i64 y) ∧ W.cell? ⟨w.heap.size, 1, none⟩ = some (.int .i64 tm) ∧ W.cell? ⟨w.heap.size, 2, none⟩ = some (.slice (some ⟨k, o, none⟩) bn bc) ∧ W.cell? ⟨w.heap.size, 3, none⟩ = some (.slice ga gn gc)) ∧ (W.cell? ⟨wq.heap.size, 0, none⟩ = some (.int .i64 g1) ∧ W.cell? ⟨wq.heap.size, 1, none⟩ = some (.string nm1) ∧ W.cell? ⟨wq.heap.size, 2, none⟩ = some (.int .i64 t1) ∧ W.cell? ⟨wq.heap.size, 3, none⟩ = some (.int .i64 b1) ∧ W.cell? ⟨wq.heap.size, 4, none⟩ = some (.int .i64 nx1) ∧ W.cell? ⟨wq.heap.size, 5, none⟩ = some (.slice ma1 m1 mc1) ∧ W.cell? ⟨wq.heap.size, 6, none⟩ = some (.slice ga1 n1 gc1)) ∧ W.cell? ⟨k, o + j * 7, none⟩ = some (.int .i64 u0))) (by kernel_rfl) (HS.out _ (bdr (bre _))) (fun hHeld => ?_)
    refine tk 0 ?_
    clear hHeld
    refine ry 1 (fun K hK => ?_)
    go_simp
    refine (specBoxOk_any lo hi lo hi g1 nm1 t1 b1 nx1 ma1 m1 mc1 ga1 n1 gc1 L1 G1 _ HNM.out HM1.out HML.out HSL.out (HMS.out.later (btr HB.out (btr B1.out bb))) HN1.out HNL.out (HIS1.out.later (btr HB.out (btr B1.out bb)))).mono ?_; rintro e w2 ⟨rfl, hb2⟩
    rw [HP.out]
    go_wp2_with fail
    refine hK.out _ _ (HS.out _ bb) (fun hHeld => ?_)
    clear hK K
    try simp only [Act.put, tp2, tp3, tp4]
    cases p
    ·refine tk 2 ?_
     refine tk 3 ?_
     refine tn 4 ?_
     refine tn 5 ?_
     refine tn 6 ?_
     refine tn 7 ?_
     refine tn 8 ?_
     refine tn 9 ?_
     refine tn 10 ?_
     refine tn 11 ?_
     refine tn 12 ?_
     refine tn 13 ?_
     refine tn 14 ?_
     refine tn 15 ?_
     refine tn 16 ?_
     refine tn 17 ?_
     refine tk 18 ?_
     refine tk 19 ?_
     refine tn 20 ?_
     refine tn 21 ?_
     refine tn 22 ?_
     refine tn 24 ?_
     refine tn 23 ?_
     refine tn 25 ?_
     refine tk 26 ?_
     refine tk 27 ?_
     refine tn 28 ?_
     refine tn 29 ?_
     refine tn 30 ?_
     refine tn 31 ?_
     refine tn 32 ?_
     refine tk 33 ?_
     refine tk 34 ?_
     refine tn 35 ?_
     refine tn 36 ?_
     refine tn 37 ?_
     refine tn 38 ?_
     refine tn 39 ?_
     refine tk 40 ?_
     refine wpAnyH_done (by kernel_rfl) ?_ _
     refine NoPanic.normal ?_
     have HE : Hid (sOk y tm S G = false) := by show _ = _; rw [HX.out, all_no (S := List.range S.length) (i := i) (by simpa using hil) (by rw [List.getElem_range, HST.out]; rfl), Bool.false_and]
     clear hHeld
     go_wp2
     go_ret
     exact ⟨by rw [HE.out]; rfl, btr HB.out (btr B1.out bb)⟩
    ·refine tk 2 ?_
     refine tk 3 ?_
     refine tk 4 ?_
     ·refine tk 5 ?_
      refine tk 6 ?_
      refine tk 7 ?_
      refine tk 8 ?_
      refine tk 9 ?_
      refine tk 10 ?_
      refine tk 11 ?_
      refine tk 12 ?_
      refine tk 13 ?_
      refine tk 14 ?_
      refine tk 15 ?_
      by_cases hle : u0 < g1
      ·have hle2 : ¬ g1 ≤ u0 := by omega
       refine tk 16 ?_
       refine tk 17 ?_
       refine tk 18 ?_
       refine tk 19 ?_
       refine tk 20 ?_
       refine tk 21 ?_
       refine tk 22 ?_
       refine tk 24 ?_
       clear hHeld
       refine ry 23 (fun K hK => ?_)
       go_simp
       refine (specBoxNamed_any lo hi y tm (some ⟨k, o, none⟩) bn bc (.slice ga gn gc) S nm1 _ HL.out HN.out (HR.out.later (btr HB.out (btr B1.out bb)))).mono ?_; rintro e w3 ⟨rfl, hb3⟩
       rw [HZN.out]
       go_wp2_with fail
       refine hK.out _ _ (HS.out _ bb) (fun hHeld => ?_)
       clear hK K
       try simp only [Act.put, tp2, tp3, tp4]
       by_cases hzn : zn = (i : Int)
       ·have hzn2 : (zn != (i : Int)) = false := by simp [hzn]
        refine tk 25 ?_
        refine tk 26 ?_
        refine tk 27 ?_
        refine tk 28 ?_
        refine tk 29 ?_
        refine tk 30 ?_
        refine tk 31 ?_
        clear hHeld
        refine ry 32 (fun K hK => ?_)
        go_simp
        refine (l06In_any lo' hi' ga gn gc G g1 _ HGL.out HGN.out (HIS.out.later (btr HB.out (btr B1.out bb)))).mono ?_; rintro e w4 ⟨rfl, h4⟩
        subst h4
        rw [HSI.out]
        go_wp2_with fail
        refine hK.out _ _ (HS.out _ bb) (fun hHeld => ?_)
        clear hK K
        try simp only [Act.put, tp2, tp3, tp4]
        cases si
        ·refine tk 33 ?_
         refine tk 34 ?_
         refine tk 35 ?_
         refine tk 36 ?_
         refine tk 37 ?_
         clear hHeld
         refine ry 38 (fun K hK => ?_)
         go_simp
         refine (l07Times_any lo hi g1 nm1 t1 b1 nx1 ma1 m1 mc1 (.slice ga1 n1 gc1) L1 tm _ HM1.out HML.out HSL.out (HMS.out.later (btr HB.out (btr B1.out bb)))).mono ?_; rintro e w5 ⟨rfl, hb5⟩
         rw [HTM.out]
         go_wp2_with fail
         refine hK.out _ _ (HS.out _ bb) (fun hHeld => ?_)
         clear hK K
         try simp only [Act.put, tp2, tp3, tp4]
         cases tkQ
         ·refine tk 39 ?_
          refine tk 40 ?_
          refine wpAnyH_done (by kernel_rfl) ?_ _
          refine NoPanic.normal ?_
          have HE : Hid (sOk y tm S G = false) := by show _ = _; rw [HX.out, all_no (S := List.range S.length) (i := i) (by simpa using hil) (by rw [List.getElem_range, HST.out]; simp), Bool.false_and]
          clear hHeld
          go_wp2
          go_ret
          exact ⟨by rw [HE.out]; rfl, btr HB.out (btr B1.out bb)⟩
         ·refine tk 39 ?_
          refine tk 40 ?_
          refine wpAnyH_done (by kernel_rfl) ?_ _
          refine NoPanic.normal ?_
          have HE : Hid (∀ j, j < i + 1 → j < S.length → stp7 tm G S j = true) := by
           intro j hj h
           by_cases hji : j < i
           ·exact HA.out j hji h
           ·obtain rfl : j = i := by omega
            rw [HST.out]; simp [hle, hzn]
          have AB : Hid (Bx w5 wq.heap.size 38 g1 nm1 t1 b1 nx1 (.slice ma1 m1 mc1) (.slice ga1 n1 gc1)) := A1.out.later bb
          have HBV : Hid (Below wq.heap.size wq w5) := by show Below _ _ _; refine btr B1.out ?_; repeat (first | exact bre _ | refine bdr ?_ | refine btr ?_ (by assumption))
          have A7 := hid (A6.out.later HBV.out)
          have O7 := hid (own_later HOW.out HBV.out)
          have B7 := hid (btr HB.out HBV.out)
          have HOL : Hid (∀ j, Value.ownBlock vv = some j → j ≠ wq.heap.size) := fun j hj e => by have := (HOW.out.lt j hj).2; omega
          clear hHeld
          go_wp2
          go_loopw [3, 6] (fun vv2 kv wr => ∃ k2 : Nat, k2 ≤ m1 ∧ kv = .int .i64 (k2 : Int) ∧ OwI wr (w.heap.size + 1) vv2 (gids (S.take i) ++ (L1.take k2).map (fun m => m.1)) ∧ Hid ((gids (S.take i) ++ (L1.take k2).map (fun m => m.1)).Nodup) ∧ (∀ j, vv2.ownBlock = some j → j ≠ wq.heap.size) ∧ Bx wr wq.heap.size 38 g1 nm1 t1 b1 nx1 (.slice ma1 m1 mc1) (.slice ga1 n1 gc1) ∧ Below (w.heap.size + 1) w5 wr) (fun _ kv _ => m1 - (intOf kv).toNat)
          case atStart => exact ⟨0, Nat.zero_le _, rfl, by simpa using O7.out, by show List.Nodup _; simpa using HND.out, HOL.out, AB.out, Below.refl _ _⟩
          case round =>
           obtain ⟨k2, hk2, rfl, hown, HND2, hob, hbx, hbl⟩ := hrel
           have HO2 := hid hown
           have HOB := hid hob
           have X2 := hid hbx
           have HBL := hid hbl
           have c1 := hbx.cells
           have hml := HML.out
           have HT : Hid (Below w.heap.size w wr) := B7.out.trans (hbl.mono (by omega))
           have A8 : Hid (Sx wr w.heap.size 27 y tm (.slice (some ⟨k, o, none⟩) bn bc) (.slice ga gn gc)) := (hbl.block w.heap.size (by omega)).trans A7.out
           have HSZ : Hid (w.heap.size + 1 ≤ wr.heap.size) := by show _ ≤ _; have h1 := A8.out.lt; omega
           clear hown hob hbx hbl
           by_cases hkt : k2 < m1
           ·have hkl : k2 < L1.length := by rw [HM1.out]; exact hkt
            obtain ⟨km, om, fa1, fc1, rfl, hkm, cm, _⟩ := (HMS.out.later HT.out).at hkl
            obtain ⟨x1, hx1⟩ : ∃ x1, L1[k2].1 = x1 := ⟨_, rfl⟩
            rw [hx1] at cm
            have cm0 := cm.1
            have HCM := hid cm0
            have HKM := hid hkm
            obtain ⟨va, vc, hvv, _⟩ := HO2.out.shape
            subst hvv
            obtain ⟨np, hnp⟩ : ∃ np, (gids (S.take i) ++ (L1.take k2).map (fun m => m.1)).length = np := ⟨_, rfl⟩
            rw [hnp] at HO2 HOB ⊢
            have HNP := hid hnp
            have HPL : Hid (np ≤ 1048576) := by show _ ≤ _; rw [← hnp]; exact HPM.out (by first | rfl | trivial) k2 (by omega)
            obtain ⟨qq, hqq⟩ : ∃ qq, inl x1 (gids (S.take i) ++ (L1.take k2).map (fun m => m.1)) = qq := ⟨_, rfl⟩
            have HQQ := hid hqq
            have HX1 := hid hx1
            have hK : (0 : Int) ≤ (k2 : Int) ∧ (k2 : Int) < (m1 : Int) := by omega
            clear cm hnp hqq hkm hx1
            go_wp2_with fail
            refine (l06In_any (w.heap.size + 1) wr.heap.size va np vc (gids (S.take i) ++ (L1.take k2).map (fun m => m.1)) x1 _ HNP.out HPL.out (by have h := HO2.out; rw [← HNP.out] at h; exact (OwI.is h).2)).mono ?_; rintro e w6 ⟨rfl, h6⟩
            subst h6
            rw [HQQ.out]
            cases qq
            ·have hnd : ((gids (S.take i) ++ (L1.take k2).map (fun m => m.1)) ++ [x1]).Nodup := nodup_snoc HND2.out HQQ.out
             have HND3 := hid hnd
             clear hnd
             go_wp2_with (at_builtin; refine wpList_append_ik w6 rfl (.tmp 98) (.tmp 105) rfl (w.heap.size + 1) _ (gids (S.take i) ++ (L1.take k2).map (fun m => m.1)) (by rfl) (by have h := HO2.out; exact h) x1 (by rfl) (by rw [HNP.out]; exact HPL.out) HSZ.out ?_; intro v7 w7 hrow7 hg7 hl7; have X7 := hid ((X2.out.later (bpush (bre _) _)).grown hg7 (fun e => HOB.out _ e.symm rfl)); have hl8 := hl7; have O8 := hid hrow7; have L8 : Hid (∀ j, v7.ownBlock = some j → j ≠ wq.heap.size) := (fun j hj e => by rcases hl7 j hj with h | h; exact HOB.out j h e; have := X2.out.lt; omega); have BL8 : Hid (Below (w.heap.size + 1) w5 w7) := HBL.out.trans (((Below.refl _ _).alloc HSZ.out _).grown hg7 (by have := HSZ.out; simp; omega) (fun k hk => (HO2.out.lt k hk).1)); clear hrow7 hg7 hl7 hl8)
             go_roundw
             case rel => exact ⟨k2 + 1, by omega, by go_num, by have h := O8.out; rw [List.append_assoc, ← HX1.out, map_take_snoc hkl] at h; exact h, by have h := HND3.out; rw [List.append_assoc, ← HX1.out, map_take_snoc hkl] at h; exact h, L8.out, X7.out, BL8.out⟩
             case measure => simp [intOf]; omega
            ·have HE2 : Hid (sOk y tm S G = false) := by
              show _ = _
              rw [HX.out, gids_dup hil hkl (by rw [HQ.out]) (by rw [HX1.out]; exact HQQ.out), Bool.and_false]
             go_wp2
             go_ret
             exact ⟨by rw [HE2.out]; rfl, HT.out⟩
           ·have HG : Hid (gids (S.take i) ++ (L1.take k2).map (fun m => m.1) = gids (S.take (i + 1))) := by
             show _ = _
             rw [gids_take hil, HQ.out, List.take_of_length_le (l := L1) (by rw [HM1.out]; omega)]
            rw [HG.out] at HO2 HND2
            go_wp2
            go_roundw
            case rel => exact ⟨i + 1, by omega, by go_num, HE, HND2, HO2.out, A8.out, HT.out⟩
            case measure => simp [intOf]; omega
        ·refine tk 33 ?_
         refine tk 34 ?_
         refine tn 35 ?_
         refine tn 36 ?_
         refine tn 37 ?_
         refine tn 38 ?_
         refine tn 39 ?_
         refine tk 40 ?_
         refine wpAnyH_done (by kernel_rfl) ?_ _
         refine NoPanic.normal ?_
         have HE : Hid (sOk y tm S G = false) := by show _ = _; rw [HX.out, all_no (S := List.range S.length) (i := i) (by simpa using hil) (by rw [List.getElem_range, HST.out]; simp), Bool.false_and]
         clear hHeld
         go_wp2
         go_ret
         exact ⟨by rw [HE.out]; rfl, btr HB.out (btr B1.out bb)⟩
       ·have hzn2 : (zn != (i : Int)) = true := by simp [hzn]
        refine tk 25 ?_
        refine tk 26 ?_
        refine tk 27 ?_
        refine tn 28 ?_
        refine tn 29 ?_
        refine tn 30 ?_
        refine tn 31 ?_
        refine tn 32 ?_
        refine tk 33 ?_
        refine tk 34 ?_
        refine tn 35 ?_
        refine tn 36 ?_
        refine tn 37 ?_
        refine tn 38 ?_
        refine tn 39 ?_
        refine tk 40 ?_
        refine wpAnyH_done (by kernel_rfl) ?_ _
        refine NoPanic.normal ?_
        have HE : Hid (sOk y tm S G = false) := by show _ = _; rw [HX.out, all_no (S := List.range S.length) (i := i) (by simpa using hil) (by rw [List.getElem_range, HST.out]; simp [hzn]), Bool.false_and]
        clear hHeld
        go_wp2
        go_ret
        exact ⟨by rw [HE.out]; rfl, btr HB.out (btr B1.out bb)⟩
      ·have hle2 : g1 ≤ u0 := by omega
       refine tk 16 ?_
       refine tk 17 ?_
       refine tk 18 ?_
       refine tk 19 ?_
       refine tn 20 ?_
       refine tn 21 ?_
       refine tn 22 ?_
       refine tn 24 ?_
       refine tn 23 ?_
       refine tn 25 ?_
       refine tk 26 ?_
       refine tk 27 ?_
       refine tn 28 ?_
       refine tn 29 ?_
       refine tn 30 ?_
       refine tn 31 ?_
       refine tn 32 ?_
       refine tk 33 ?_
       refine tk 34 ?_
       refine tn 35 ?_
       refine tn 36 ?_
       refine tn 37 ?_
       refine tn 38 ?_
       refine tn 39 ?_
       refine tk 40 ?_
       refine wpAnyH_done (by kernel_rfl) ?_ _
       refine NoPanic.normal ?_
       have HE : Hid (sOk y tm S G = false) := by show _ = _; rw [HX.out, all_no (S := List.range S.length) (i := i) (by simpa using hil) (by rw [List.getElem_range, HST.out]; simp [hle]), Bool.false_and]
       clear hHeld
       go_wp2
       go_ret
       exact ⟨by rw [HE.out]; rfl, btr HB.out (btr B1.out bb)⟩
  ·have HE : Hid (sOk y tm S G = true) := by
    show _ = _
    have e := HL.out
    have h1 := HND.out
    rw [List.take_of_length_le (by omega)] at h1
    rw [HX.out, List.all_eq_true.2 (fun j hj => HA.out j (by have := List.mem_range.1 hj; omega) (List.mem_range.1 hj))]
    simp [h1]
   go_wp2
   go_ret
   exact ⟨by rw [HE.out]; rfl, HB.out⟩
set_option maxHeartbeats 1600000 in
set_option maxRecDepth 100000 in
theorem eqBoxS_any (l1 h1 l2 h2 : Nat) (ao bo : Option Addr) (n ca cb : Nat) (S : List X7) (w : World) (hl : S.length = n) (hn : n ≤ 1048576) (hsb : Sb S) (ha : Bs l1 h1 w ao S) (hb : Bs l2 h2 w bo S) :
  Calls Tryz.prog 69 #[.slice ao n ca, .slice bo n cb] w fun e w' => e = .returned (.bool true) ∧ Below w.heap.size w w' := by
 have hnn : ((n : Int) != (n : Int)) = false := by simp
 have HA := hid ha
 have HB := hid hb
 have HL := hid hl
 have HS := hid hsb
 clear ha hb hl hsb
 go_enter Tryz.func69, Tryz.ntmps69
 go_wp2
 clear hnn
 go_loopw [5] (fun iv wr => ∃ i : Nat, i ≤ n ∧ iv = .int .i64 (i : Int) ∧ Below w.heap.size w wr) (fun iv _ => n - (intOf iv).toNat)
 case atStart => exact ⟨0, Nat.zero_le _, rfl, bre _⟩
 case round =>
  obtain ⟨i, hi, rfl, hb⟩ := hrel
  have HBE := hid hb
  clear hb
  by_cases hlt : i < n
  ·have hil : i < S.length := by rw [HL.out]; exact hlt
   obtain ⟨k, o, ma, mc, ga, gc, rfl, hk, c, hms, his, _⟩ := (HA.out.later HBE.out).at hil
   obtain ⟨k', o', ma', mc', ga', gc', rfl, hk', d, hms', his', _⟩ := (HB.out.later HBE.out).at hil
   have hmem := HS.out S[i] (List.getElem_mem hil)
   obtain ⟨p, hp⟩ : ∃ p, S[i] = p := ⟨_, rfl⟩
   rw [hp] at c d hms his hms' his' hmem
   obtain ⟨g, nm, t, b, nx, L, G⟩ := p
   dsimp only at c d hms his hms' his' hmem
   obtain ⟨m, hm⟩ : ∃ m, L.length = m := ⟨_, rfl⟩
   obtain ⟨q, hq⟩ : ∃ q, G.length = q := ⟨_, rfl⟩
   rw [hm, hq] at c d hmem
   have HM := hid hm
   have HQ := hid hq
   have HMM := hid hmem
   have R1 := hid hms
   have R2 := hid hms'
   have I1 := hid his
   have I2 := hid his'
   have hI : (0 : Int) ≤ (i : Int) ∧ (i : Int) < (n : Int) := by omega
   have HSS : Hid (∀ W, Below wr.heap.size wr W → (W.cell? ⟨k, o + i * 7, none⟩ = some (.int .i64 g) ∧ W.cell? ⟨k, o + i * 7 + 1, none⟩ = some (.string nm) ∧ W.cell? ⟨k, o + i * 7 + 2, none⟩ = some (.int .i64 t) ∧ W.cell? ⟨k, o + i * 7 + 3, none⟩ = some (.int .i64 b) ∧ W.cell? ⟨k, o + i * 7 + 4, none⟩ = some (.int .i64 nx) ∧ W.cell? ⟨k, o + i * 7 + 5, none⟩ = some (.slice ma m mc) ∧ W.cell? ⟨k, o + i * 7 + 6, none⟩ = some (.slice ga q gc)) ∧ (W.cell? ⟨k', o' + i * 7, none⟩ = some (.int .i64 g) ∧ W.cell? ⟨k', o' + i * 7 + 1, none⟩ = some (.string nm) ∧ W.cell? ⟨k', o' + i * 7 + 2, none⟩ = some (.int .i64 t) ∧ W.cell? ⟨k', o' + i * 7 + 3, none⟩ = some (.int .i64 b) ∧ W.cell? ⟨k', o' + i * 7 + 4, none⟩ = some (.int .i64 nx) ∧ W.cell? ⟨k', o' + i * 7 + 5, none⟩ = some (.slice ma' m mc') ∧ W.cell? ⟨k', o' + i * 7 + 6, none⟩ = some (.slice ga' q gc'))) := fun W h => ⟨C7.later c hk h, C7.later d hk' h⟩
   clear c d hp hm hq hmem hms his hms' his'
   go_wp2_with fail
   go_region_held3 (fun W => (W.cell? ⟨k, o + i * 7, none⟩ = some (.int .i64 g) ∧ W.cell? ⟨k, o + i * 7 + 1, none⟩ = some (.string nm) ∧ W.cell? ⟨k, o + i * 7 + 2, none⟩ = some (.int .i64 t) ∧ W.cell? ⟨k, o + i * 7 + 3, none⟩ = some (.int .i64 b) ∧ W.cell? ⟨k, o + i * 7 + 4, none⟩ = some (.int .i64 nx) ∧ W.cell? ⟨k, o + i * 7 + 5, none⟩ = some (.slice ma m mc) ∧ W.cell? ⟨k, o + i * 7 + 6, none⟩ = some (.slice ga q gc)) ∧ (W.cell? ⟨k', o' + i * 7, none⟩ = some (.int .i64 g) ∧ W.cell? ⟨k', o' + i * 7 + 1, none⟩ = some (.string nm) ∧ W.cell? ⟨k', o' + i * 7 + 2, none⟩ = some (.int .i64 t) ∧ W.cell? ⟨k', o' + i * 7 + 3, none⟩ = some (.int .i64 b) ∧ W.cell? ⟨k', o' + i * 7 + 4, none⟩ = some (.int .i64 nx) ∧ W.cell? ⟨k', o' + i * 7 + 5, none⟩ = some (.slice ma' m mc') ∧ W.cell? ⟨k', o' + i * 7 + 6, none⟩ = some (.slice ga' q gc')))
    ((refine HSS.out _ ?_; repeat (first | exact bdr (bre _) | refine btr ?_ (by assumption))))
    ((go_at_call 112; refine (eqBox_any l1 h1 l2 h2 l1 h1 l2 h2 g nm t b nx ma m mc ga q gc ma' mc' ga' gc' L G _ HM.out HMM.out.2.1 HMM.out.2.2.1 (R1.out.later (by repeat (first | exact bdr (bre _) | exact bre _ | refine btr ?_ (by assumption)))) (R2.out.later (by repeat (first | exact bdr (bre _) | exact bre _ | refine btr ?_ (by assumption)))) HQ.out HMM.out.2.2.2 (I1.out.later (by repeat (first | exact bdr (bre _) | exact bre _ | refine btr ?_ (by assumption)))) (I2.out.later (by repeat (first | exact bdr (bre _) | exact bre _ | refine btr ?_ (by assumption))))).mono ?_; rintro e w1 ⟨rfl, hb1⟩))
   have HB1 : Hid (Below w.heap.size w w1) := by show Below _ _ _; refine btr HBE.out ?_; repeat (first | exact bdr (bre _) | refine btr ?_ (by assumption))
   go_wp2
   go_roundw
   case rel => exact ⟨i + 1, by omega, by go_num, HB1.out⟩
   case measure => simp [intOf]; omega
  ·go_wp2
   go_ret
   exact ⟨rfl, HBE.out⟩
theorem two_stores (w : World) (ta tb : Nat) (y tm y1 tm1 : Int) (bv gv bv1 gv1 : Value) (W0 : World)
  (h : ((w.alloc (.cells #[.int .i64 y, .int .i64 tm, bv, gv] ta)).alloc (.cells #[.int .i64 y1, .int .i64 tm1, bv1, gv1] tb)) = W0) :
  Sx W0 w.heap.size ta y tm bv gv ∧ Sx W0 (w.heap.size + 1) tb y1 tm1 bv1 gv1 ∧ Below w.heap.size w W0 ∧ W0.heap.size = w.heap.size + 1 + 1 := by
 have e1 : (w.alloc (.cells #[.int .i64 y, .int .i64 tm, bv, gv] ta)).heap.size = w.heap.size + 1 := by simp
 have h1 := Sx.new (w.alloc (.cells #[.int .i64 y, .int .i64 tm, bv, gv] ta)) tb y1 tm1 bv1 gv1
 rw [e1] at h1
 subst h
 exact ⟨(Sx.new w ta y tm bv gv).later (bpush (bre _) _), h1, bpush (bpush (bre _) _) _, by simp⟩
set_option maxHeartbeats 800000 in
set_option maxRecDepth 100000 in
theorem eqStore_any (l1 h1 l2 h2 l3 h3 l4 h4 : Nat) (y tm : Int) (ba : Option Addr) (bn bc : Nat) (ga : Option Addr) (gn gc : Nat) (ba' : Option Addr) (bc' : Nat) (ga' : Option Addr) (gc' : Nat) (S : List X7) (G : List Int) (w : World) (hl : S.length = bn) (hn : bn ≤ 1048576) (hsb : Sb S) (hm : Bs l1 h1 w ba S) (hm' : Bs l2 h2 w ba' S)
  (hgl : G.length = gn) (hgn : gn ≤ 1048576) (hs : Is l3 h3 w ga G) (hs' : Is l4 h4 w ga' G) :
  Calls Tryz.prog 23 #[.agg #[.int .i64 y, .int .i64 tm, .slice ba bn bc, .slice ga gn gc], .agg #[.int .i64 y, .int .i64 tm, .slice ba' bn bc', .slice ga' gn gc']] w fun e w' => e = .returned (.bool true) ∧ Below w.heap.size w w' := by
 obtain ⟨W0, hW0⟩ : ∃ W0, ((w.alloc (.cells #[.int .i64 y, .int .i64 tm, .slice ba bn bc, .slice ga gn gc] 27)).alloc (.cells #[.int .i64 y, .int .i64 tm, .slice ba' bn bc', .slice ga' gn gc'] 27)) = W0 := ⟨_, rfl⟩
 obtain ⟨a0, a1, b0, _⟩ := two_stores w _ _ _ _ _ _ _ _ _ _ W0 hW0
 have A0 := hid a0
 have A1 := hid a1
 have B0 := hid b0
 have c0 := a0.cells
 have c1 := a1.cells
 have HM := hid hm
 have HM' := hid hm'
 have HS := hid hs
 have HS' := hid hs'
 have HX := hid hsb
 have e1 : (y != y) = false := by simp
 have e2 : (tm != tm) = false := by simp
 clear a0 a1 b0 hm hm' hs hs' hsb
 go_enter Tryz.func23, Tryz.ntmps23
 go_wp2_with fail
 clear hW0
 refine (eqBoxS_any l1 h1 l2 h2 ba ba' bn bc bc' S _ hl hn HX.out (HM.out.later B0.out) (HM'.out.later B0.out)).mono ?_; rintro e w2 ⟨rfl, hb2⟩
 have k0 := A0.out.later hb2
 have k1 := A1.out.later hb2
 have B2 := hid (btr B0.out hb2)
 have c0 := k0.cells
 have c1 := k1.cells
 clear hb2 k0 k1 A0 A1 B0
 go_wp2_with fail
 refine (eqIntS_any l3 h3 l4 h4 ga ga' gn gc gc' G _ hgl hgn (HS.out.later B2.out) (HS'.out.later B2.out)).mono ?_; rintro e w3 ⟨rfl, hb3⟩
 have B3 := hid (btr B2.out hb3)
 clear hb3
 go_wp2
 go_ret
 exact ⟨rfl, B3.out⟩
end Go.Proofs.YtdkedgedkgabnaaGreatDoor
