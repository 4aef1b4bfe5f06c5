/- Sok. -/
import Derived.Test.YtlhofbnnonljaaaGreatDoorX7
import Derived.Test.YtlhofbnnonljaaaGreatDoorX9
import Derived.Test.YtlhofbnnonljaaaGreatDoorX10
namespace Go.Proofs.YtlhofbnnonljaaaGreatDoor
open Go.RowKit Go.ChangeMaps
def bxx (x : X7) : Bool := bxOk x.1 x.2.1 x.2.2.1 x.2.2.2.1 x.2.2.2.2.1 x.2.2.2.2.2.1 x.2.2.2.2.2.2
def pg (S : List X7) (i : Nat) : Int := lst 0 ((S.take i).map (fun x => x.1))
def stp7 (tm : Int) (G : List Int) (S : List X7) (i : Nat) : Bool :=
  match S[i]? with
  | none => true
  | some x => bxx x && (decide (pg S i < x.1) && (decide (fidx (isN x.2.1) S 0 = (i : Int)) && (!inl x.1 G && tmOk tm x.2.2.1 x.2.2.2.2.2.1)))
/-- The Gids of all mails. -/
def gids (S : List X7) : List Int := S.flatMap (fun x => x.2.2.2.2.2.1.map (fun m => m.1))
def sOk (y tm : Int) (S : List X7) (G : List Int) : Bool :=
  (decide (1 ≤ y) && decide (y ≤ 2)) && ((decide (0 ≤ tm) && decide (tm ≤ 100000)) && (decide ((S.length : Int) ≤ 5) && (gnM 20 G && ((List.range S.length).all (stp7 tm G S) && decide (gids S).Nodup))))
theorem pg_succ {S : List X7} {i : Nat} (h : i < S.length) : pg S (i + 1) = S[i].1 := by
  unfold pg
  rw [List.map_take]
  have := lst_take (G := S.map (fun x => x.1)) (i := i) (by simpa using h)
  rw [this, List.getElem_map]
theorem stp7_at {tm : Int} {G : List Int} {S : List X7} {i : Nat} (h : i < S.length) {x : X7} (hx : S[i] = x) : stp7 tm G S i = (bxx x && (decide (pg S i < x.1) && (decide (fidx (isN x.2.1) S 0 = (i : Int)) && (!inl x.1 G && tmOk tm x.2.2.1 x.2.2.2.2.2.1)))) := by
  unfold stp7
  rw [List.getElem?_eq_getElem h, hx]
theorem gids_take {S : List X7} {i : Nat} (h : i < S.length) : gids (S.take (i + 1)) = gids (S.take i) ++ S[i].2.2.2.2.2.1.map (fun m => m.1) := by
  unfold gids
  rw [List.take_succ_eq_append_getElem h, List.flatMap_append]
  simp
theorem gids_small {tm : Int} {G : List Int} {S : List X7} : ∀ {i : Nat}, (∀ j, j < i → j < S.length → stp7 tm G S j = true) → i ≤ S.length → (gids (S.take i)).length ≤ 10 * i := by
  intro i
  induction i with
  | zero => intro _ _; simp [gids]
  | succ i ih =>
    intro h hi
    have h1 := ih (fun j hj hl => h j (by omega) hl) (by omega)
    rw [gids_take (by omega), List.length_append, List.length_map]
    have h2 := h i (by omega) (by omega)
    rw [stp7_at (by omega) rfl] at h2
    simp only [Bool.and_eq_true] at h2
    have h3 := (bx_parts (show bxOk _ _ _ _ _ _ _ = true from h2.1)).1
    omega
theorem map_take_snoc {L : List M4} {k : Nat} (h : k < L.length) : (L.take k).map (fun m => m.1) ++ [L[k].1] = (L.take (k + 1)).map (fun m => m.1) := by
  rw [List.take_succ_eq_append_getElem h, List.map_append]
  rfl
theorem inl_iff {x : Int} {G : List Int} : inl x G = true ↔ x ∈ G := by
  induction G with
  | nil => simp [inl]
  | cons a G ih => simp only [inl, Bool.or_eq_true, decide_eq_true_eq, ih, List.mem_cons]; constructor <;> (rintro (h | h); exact .inl h.symm; exact .inr h)
theorem nodup_snoc {P : List Int} {x : Int} (h : P.Nodup) (hx : inl x P = false) : (P ++ [x]).Nodup := by
  rw [List.nodup_append]
  refine ⟨h, by simp, fun a ha b hb e => ?_⟩
  simp only [List.mem_cons, List.not_mem_nil, or_false] at hb
  subst hb
  subst e
  rw [inl_iff.2 ha] at hx
  cases hx
theorem gids_dup {S : List X7} {i k : Nat} {L : List M4} (h : i < S.length) (hk : k < L.length) (hL : S[i].2.2.2.2.2.1 = L) (hx : inl L[k].1 (gids (S.take i) ++ (L.take k).map (fun m => m.1)) = true) : decide (gids S).Nodup = false := by
  simp only [decide_eq_false_iff_not]
  intro hn
  have e1 : gids S = gids (S.take (i + 1)) ++ gids (S.drop (i + 1)) := by
    unfold gids
    rw [← List.flatMap_append, List.take_append_drop]
  have e2 : L.map (fun m => m.1) = (L.take k).map (fun m => m.1) ++ ([L[k].1] ++ (L.drop (k + 1)).map (fun m => m.1)) := by
    conv => lhs; rw [← List.take_append_drop k L, List.drop_eq_getElem_cons hk]
    rw [List.map_append, List.map_cons]
    rfl
  rw [e1, gids_take h, hL, e2] at hn
  rw [← List.append_assoc, List.append_assoc, List.nodup_append] at hn
  exact hn.2.2 _ (inl_iff.1 hx) _ (by simp) rfl
theorem cell_one_i (w : World) (n : Int) (e : Nat) : ∀ j u, ([.int .i64 n] : List Value)[j]? = some u → (w.alloc (.cells #[.int .i64 n] e)).cell? ((⟨w.heap.size, 0, none⟩ : Addr).add j) = some u := by
  intro j u hj
  match j, hj with
  | 0, hj =>
    simp only [List.getElem?_cons_zero, Option.some.injEq] at hj
    subst hj
    exact cell_of_row _ w.heap.size 0 _ _ _ (heap_alloc_new w _)
  | j + 1, hj => simp at hj
theorem wpList_append_ik (w : World) {ops : Array Oper} {rest : List Oper} {o : Oper} {a : Act} {Q : Exit → Act → World → Prop} (hgd : o.guard = none) (s x : Operand)
    (ho : o.op = .call { callee := .builtin .append, args := #[s, x], argTypes := #[55, 55] })
    (base : Nat) (v : Value) (bs : List Int) (hs : a.eval s = v) (hown : OwI w base v bs) (n : Int)
    (hx : a.eval x = .slice (some ⟨w.heap.size, 0, none⟩) 1 1) (hlen : bs.length ≤ 1048576) (hbase : base ≤ w.heap.size)
    (h : ∀ v' w', OwI w' base v' (bs ++ [n]) → (w.alloc (.cells #[.int .i64 n] 3)).grownBy w' v.ownBlock → (∀ j, v'.ownBlock = some j → v.ownBlock = some j ∨ w.heap.size < j) → wpList Tryz.prog ops Q rest (a.put o.dst v') w') :
    wpList Tryz.prog ops Q (o :: rest) a (w.alloc (.cells #[.int .i64 n] 3)) := by
  obtain ⟨i0, hi, hz0, hz1, hz2⟩ := info_parts3 info_int
  refine wpList_append_own_at _ hgd s x 55 ho base 3 i0 (.int .i64 0) 1 8 Tryz.underlying55 hi hz0 hz1 hz2 rfl (by decide) v _ _ hs (hown.alloc _) ⟨w.heap.size, 0, none⟩ 1 1 [.int .i64 n] hx rfl (cell_one_i _ _ _) (by intro u hu; simp at hu; subst hu; rfl) (by unfold maxLen; omega) (by omega) (by simp; omega) ?_
  intro v' w' hown' hg _ h5
  exact h v' w' (by simpa [OwI] using hown') hg (fun j hj => by
    rcases h5 with h5 | h5
    · exact .inl (by rw [← h5]; exact hj)
    · rw [h5] at hj; simp at hj; exact .inr (by omega))
set_option maxHeartbeats 16000000 in
set_option maxRecDepth 100000 in
theorem specStoreOk_any (lo hi lo' hi' : Nat) (y tm : Int) (ba : Option Addr) (bn bc : Nat) (ga : Option Addr) (gn gc : Nat) (S : List X7) (G : List Int) (w : World) (hl : S.length = bn) (hn : bn ≤ 1048576) (hsb : Sb S) (hm : Bs lo hi w ba S) (hgl : G.length = gn) (hgn : gn ≤ 1048576) (hs : Is lo' hi' w ga G) :
    Calls Tryz.prog 72 #[.agg #[.int .i64 y, .int .i64 tm, .slice ba bn bc, .slice ga gn gc]] w fun e w' => e = .returned (.bool (sOk y tm S G)) ∧ Below w.heap.size w w' := by
  obtain ⟨p1, hp1, cp1⟩ := in_range y 1 2
  obtain ⟨p2, hp2, cp2⟩ := in_range tm 0 100000
  obtain ⟨p6, hp6⟩ : ∃ p6, gnM 20 G = p6 := ⟨_, rfl⟩
  have HX : Hid (sOk y tm S G = (p1 && (p2 && (decide ((bn : Int) ≤ 5) && (p6 && ((List.range S.length).all (stp7 tm G S) && decide (gids S).Nodup)))))) := by show _ = _; rw [hp1.out, hp2.out, ← hp6, ← hl]; rfl
  obtain ⟨W0, hW0⟩ : ∃ W0, w.alloc (.cells #[.int .i64 y, .int .i64 tm, .slice ba bn bc, .slice ga gn gc] 57) = W0 := ⟨_, rfl⟩
  have a0 : Sx W0 w.heap.size 57 y tm (.slice ba bn bc) (.slice ga gn gc) := by subst hW0; exact Sx.new w _ y tm _ _
  have b0 : Below w.heap.size w W0 := by subst hW0; exact bpush (bre _) _
  have c0 := a0.cells
  have HP6 := hid hp6
  have HL := hid hl
  have HN := hid hn
  have HSB := hid hsb
  have HR := hid hm
  have HGL := hid hgl
  have HGN := hid hgn
  have HIS := hid hs
  have A0 := hid a0
  have B0 := hid b0
  clear hp1 hp2 hp6 hl hsb hm hgl hgn hs a0 b0
  go_enter Tryz.func72, Tryz.ntmps72
  go_wp2_with fail
  clear hW0
  refine (cp1.out _).mono ?_; rintro e w1 ⟨rfl, h1⟩
  subst h1
  cases p1
  · have HE : Hid (sOk y tm S G = false) := by show _ = _; rw [HX.out]; rfl
    go_wp2
    go_ret
    exact ⟨by rw [HE.out]; rfl, B0.out⟩
  go_wp2_with fail
  refine (cp2.out _).mono ?_; rintro e w2 ⟨rfl, h2⟩
  subst h2
  cases p2
  · have HE : Hid (sOk y tm S G = false) := by show _ = _; rw [HX.out]; rfl
    go_wp2
    go_ret
    exact ⟨by rw [HE.out]; rfl, B0.out⟩
  by_cases h5 : (bn : Int) ≤ 5
  case neg =>
    have HE : Hid (sOk y tm S G = false) := by show _ = _; rw [HX.out]; simp [h5]
    have h6 : (5 : Int) < (bn : Int) := by omega
    go_wp2
    go_ret
    exact ⟨by rw [HE.out]; rfl, B0.out⟩
  have h6 : ¬ (5 : Int) < (bn : Int) := by omega
  have HFIVE : Hid (bn ≤ 5) := by show _ ≤ _; omega
  go_wp2_with fail
  refine (l06SortedM_any 20 lo' hi' ga gn gc G _ HGL.out HGN.out (HIS.out.later B0.out)).mono ?_; rintro e w5 ⟨rfl, hb5⟩
  rw [HP6.out]
  have a5 := A0.out.later hb5
  have A5 := hid a5
  have B5 := hid (btr B0.out hb5)
  have c0 := a5.cells
  clear a5 hb5 A0 B0
  cases p6
  · have HE : Hid (sOk y tm S G = false) := by show _ = _; rw [HX.out]; simp
    go_wp2
    go_ret
    exact ⟨by rw [HE.out]; rfl, B5.out⟩
  have HX : Hid (sOk y tm S G = ((List.range S.length).all (stp7 tm G S) && decide (gids S).Nodup)) := by show _ = _; rw [HX.out]; simp [h5]
  have HSZ0 : Hid (w.heap.size + 1 ≤ w5.heap.size) := A5.out.lt
  go_wp2
  clear h5 h6 cp1 cp2 HP6 c0
  go_loopw [3, 4] (fun vv iv wq => ∃ (i : Nat), i ≤ bn ∧ iv = .int .i64 (i : Int) ∧ Hid (∀ j, j < i → j < S.length → stp7 tm G S j = true) ∧ Hid ((gids (S.take i)).Nodup) ∧ OwI wq (w.heap.size + 1) vv (gids (S.take i)) ∧ Sx wq w.heap.size 57 y tm (.slice ba bn bc) (.slice ga gn gc) ∧ Below w.heap.size w wq) (fun _ iv _ => bn - (intOf iv).toNat)
  case atStart => exact ⟨0, Nat.zero_le _, rfl, fun j hj => absurd hj (Nat.not_lt_zero _), by show List.Nodup _; simp [gids], by simpa [gids] using ownI_empty w5 (w.heap.size + 1) HSZ0.out, A5.out.later (bpush (bre _) _), btr B5.out (bpush (bre _) _)⟩
  case round =>
    obtain ⟨i, hin, rfl, HA, HND, hown, hsx, hb⟩ := hrel
    obtain ⟨vv, hvv⟩ : ∃ vv, vv = u3 := ⟨_, rfl⟩
    subst hvv
    obtain ⟨wq, hwq⟩ : ∃ wq, wq = wr := ⟨_, rfl⟩
    subst hwq
    have HB := hid hb
    have HOW := hid hown
    have A6 := hid hsx
    have c0 := hsx.cells
    have hbn := HFIVE.out
    clear hb hown hsx
    by_cases hlt : i < bn
    · have hil : i < S.length := by rw [HL.out]; exact hlt
      obtain ⟨k, o, ma1, mc1, ga1, gc1, rfl, hk, d, hms, his, _⟩ := HR.out.at hil
      have hmem := HSB.out S[i] (List.getElem_mem hil)
      obtain ⟨q, hq⟩ : ∃ q, S[i] = q := ⟨_, rfl⟩
      obtain ⟨g1, nm1, t1, b1, nx1, L1, G1⟩ := q
      have HST := hid (stp7_at (tm := tm) (G := G) hil hq)
      rw [hq] at d hms his hmem
      dsimp only at d hms his hmem HST
      obtain ⟨m1, hm1⟩ : ∃ m1, L1.length = m1 := ⟨_, rfl⟩
      obtain ⟨n1, hn1⟩ : ∃ n1, G1.length = n1 := ⟨_, rfl⟩
      rw [hm1, hn1] at d hmem
      have HM1 := hid hm1
      have HN1 := hid hn1
      have HNM := hid hmem.1
      have HML := hid hmem.2.1
      have HSL := hid hmem.2.2.1
      have HNL := hid hmem.2.2.2
      have HMS := hid hms
      have HIS1 := hid his
      have HQ : Hid (S[i].2.2.2.2.2.1 = L1) := by show _ = _; rw [hq]
      obtain ⟨p, hp⟩ : ∃ p, bxOk g1 nm1 t1 b1 nx1 L1 G1 = p := ⟨_, rfl⟩
      obtain ⟨si, hsi⟩ : ∃ si, inl g1 G = si := ⟨_, rfl⟩
      obtain ⟨zn, hzn⟩ : ∃ zn, fidx (isN nm1) S 0 = zn := ⟨_, rfl⟩
      obtain ⟨tk, htk⟩ : ∃ tk, tmOk tm t1 L1 = tk := ⟨_, rfl⟩
      have HP := hid hp
      have HSI := hid hsi
      have HZN := hid hzn
      have HTM := hid htk
      have HP0 : Hid (p = true → 0 < g1) := fun h => by
        have h1 := hp.trans h
        simp only [bxOk, Bool.and_eq_true] at h1
        exact gok_pos h1.1
      have HPM : Hid (p = true → ∀ k2, k2 ≤ m1 → (gids (S.take i) ++ (L1.take k2).map (fun m => m.1)).length ≤ 1048576) := fun hpt k2 hk2 => by
        rw [List.length_append, List.length_map, List.length_take]
        have h1 := gids_small HA.out (by omega)
        have h2 := (bx_parts (hp.trans hpt)).1
        omega
      have hI : (0 : Int) ≤ (i : Int) ∧ (i : Int) < (bn : Int) := by omega
      rw [show bxx (g1, nm1, t1, b1, nx1, L1, G1) = p from hp, HSI.out, HZN.out, HTM.out] at HST
      have d1 := d.later hk HB.out
      have d0 := d1
      unfold C7 at d0
      clear hq hms his hmem hm1 hn1 hp hsi hzn htk d
      go_wp2_with fail
      obtain ⟨W1, hW1⟩ : ∃ W1, wq.alloc (.cells #[.int .i64 g1, .string nm1, .int .i64 t1, .int .i64 b1, .int .i64 nx1, .slice ma1 m1 mc1, .slice ga1 n1 gc1] 77) = W1 := ⟨_, rfl⟩
      have A1 : Hid (Bx W1 wq.heap.size 77 g1 nm1 t1 b1 nx1 (.slice ma1 m1 mc1) (.slice ga1 n1 gc1)) := by subst hW1; exact Bx.new _ _ _ _ _ _ _ _ _
      have B1 : Hid (Below wq.heap.size wq W1) := by subst hW1; exact bpush (bre _) _
      rw [hW1]
      clear hW1 d0 d1
      by_cases h0 : i = 0
      · have hu0 : pg S i = 0 := by rw [h0]; rfl
        rw [hu0] at HST
        have hpos : ¬ (0 : Int) < (i : Int) := by omega
        have hposN : ¬ 0 < i := by omega
        have HS : Hid (∀ W, Below W1.heap.size W1 W → (W.cell? ⟨w.heap.size, 0, none⟩ = some (.int .i64 y) ∧ W.cell? ⟨w.heap.size, 1, none⟩ = some (.int .i64 tm) ∧ W.cell? ⟨w.heap.size, 2, none⟩ = some (.slice (some ⟨k, o, none⟩) bn bc) ∧ W.cell? ⟨w.heap.size, 3, none⟩ = some (.slice ga gn gc)) ∧ (W.cell? ⟨wq.heap.size, 0, none⟩ = some (.int .i64 g1) ∧ W.cell? ⟨wq.heap.size, 1, none⟩ = some (.string nm1) ∧ W.cell? ⟨wq.heap.size, 2, none⟩ = some (.int .i64 t1) ∧ W.cell? ⟨wq.heap.size, 3, none⟩ = some (.int .i64 b1) ∧ W.cell? ⟨wq.heap.size, 4, none⟩ = some (.int .i64 nx1) ∧ W.cell? ⟨wq.heap.size, 5, none⟩ = some (.slice ma1 m1 mc1) ∧ W.cell? ⟨wq.heap.size, 6, none⟩ = some (.slice ga1 n1 gc1))) := fun W h => ⟨(A6.out.later (btr B1.out h)).cells, (A1.out.later h).cells⟩
        clear h0 hu0 c0 hk
        refine wp_region_noPanic ?_
        refine wp_region_held_drew (S := (fun W => (W.cell? ⟨w.heap.size, 0, none⟩ = some (.int .i64 y) ∧ W.cell? ⟨w.heap.size, 1, none⟩ = some (.int .i64 tm) ∧ W.cell? ⟨w.heap.size, 2, none⟩ = some (.slice (some ⟨k, o, none⟩) bn bc) ∧ W.cell? ⟨w.heap.size, 3, none⟩ = some (.slice ga gn gc)) ∧ (W.cell? ⟨wq.heap.size, 0, none⟩ = some (.int .i64 g1) ∧ W.cell? ⟨wq.heap.size, 1, none⟩ = some (.string nm1) ∧ W.cell? ⟨wq.heap.size, 2, none⟩ = some (.int .i64 t1) ∧ W.cell? ⟨wq.heap.size, 3, none⟩ = some (.int .i64 b1) ∧ W.cell? ⟨wq.heap.size, 4, none⟩ = some (.int .i64 nx1) ∧ W.cell? ⟨wq.heap.size, 5, none⟩ = some (.slice ma1 m1 mc1) ∧ W.cell? ⟨wq.heap.size, 6, none⟩ = some (.slice ga1 n1 gc1)))) (by kernel_rfl) (HS.out _ (bdr (bre _))) (fun hHeld => ?_)
        refine wpAnyH_take (i := 0) (oi := { dst := some 42, op := Op.load 77 (Operand.tmp 5), type := 77, pos := "l07_store.go:29", after := #[], guard := none }) (v := ?vb1_0) rfl (by kernel_rfl) (by kernel_rfl) (by kernel_rfl) (fun _ _ _ h => h) (Or.inl ⟨by rfl, ?hyb1_0⟩) (by assumption) ?restb1_0
        case hyb1_0 => (intro w hSw; (try dsimp only at hSw); go_simp; try with_reducible rfl)
        try simp only [Act.put, List.setIfInBounds_toArray, List.set_cons_zero, List.set_cons_succ]
        clear hHeld
        refine wpAnyH_ready (rs := [1]) (by kernel_rfl) (by simp) ?_
        refine AllReadyH.cons (o := { dst := some 43, op := Op.call { callee := Callee.value (Operand.func 71), args := #[Operand.tmp 42], argTypes := #[77] }, type := 4, pos := "l07_store.go:29", after := #[{ on := 0, ground := Ground.data }], guard := none }) rfl (fun K hK => ?_) AllReadyH.nil
        go_simp
        refine (specBoxOk_any lo hi lo hi g1 nm1 t1 b1 nx1 ma1 m1 mc1 ga1 n1 gc1 L1 G1 _ HNM.out HM1.out HML.out HSL.out (HMS.out.later (btr HB.out (btr B1.out (by repeat (first | exact bre _ | refine bdr ?_ | refine btr ?_ (by assumption)))))) HN1.out HNL.out (HIS1.out.later (btr HB.out (btr B1.out (by repeat (first | exact bre _ | refine bdr ?_ | refine btr ?_ (by assumption))))))).mono ?_; rintro e w2 ⟨rfl, hb2⟩
        rw [HP.out]
        go_wp2_with fail
        refine hK.out _ _ (HS.out _ (by repeat (first | exact bre _ | refine bdr ?_ | refine btr ?_ (by assumption)))) (fun hHeld => ?_)
        clear hK K
        try simp only [Act.put, List.setIfInBounds_toArray, List.set_cons_zero, List.set_cons_succ]
        cases p
        · refine wpAnyH_take (i := 2) (oi := { dst := some 44, op := Op.unOp UnOp.not 4 (Operand.tmp 43), type := 4, pos := "l07_store.go:29", after := #[{ on := 1, ground := Ground.data }], guard := none }) (v := ?vb3_2) rfl (by kernel_rfl) (by kernel_rfl) (by kernel_rfl) (fun _ _ _ h => h) (Or.inl ⟨by rfl, ?hyb3_2⟩) (by assumption) ?restb3_2
          case hyb3_2 => (intro w hSw; (try dsimp only at hSw); go_simp; try with_reducible rfl)
          try simp only [Act.put, List.setIfInBounds_toArray, List.set_cons_zero, List.set_cons_succ]
          refine wpAnyH_take (i := 3) (oi := { dst := some 45, op := Op.move (Operand.tmp 44), type := 4, pos := "l07_store.go:29", after := #[{ on := 2, ground := Ground.data }, { on := 1, ground := Ground.chain }], guard := none }) (v := ?vb4_3) rfl (by kernel_rfl) (by kernel_rfl) (by kernel_rfl) (fun _ _ _ h => h) (Or.inl ⟨by rfl, ?hyb4_3⟩) (by assumption) ?restb4_3
          case hyb4_3 => (intro w hSw; (try dsimp only at hSw); go_simp; try with_reducible rfl)
          try simp only [Act.put, List.setIfInBounds_toArray, List.set_cons_zero, List.set_cons_succ]
          refine wpAnyH_take (i := 4) (oi := { dst := some 46, op := Op.move (Operand.tmp 4), type := 3, pos := "l07_store.go:29", after := #[{ on := 3, ground := Ground.guard }], guard := some (3, false) }) (v := undef) rfl (by kernel_rfl) (by kernel_rfl) (by kernel_rfl) (fun _ _ _ h => h) (Or.inr ⟨by rfl, rfl⟩) (by assumption) ?_
          try simp only [Act.put, List.setIfInBounds_toArray, List.set_cons_zero, List.set_cons_succ]
          refine wpAnyH_take (i := 5) (oi := { dst := some 47, op := Op.binOp BinOp.gtr 3 (Operand.tmp 46) (Operand.const (Value.int IntKind.i64 0)) 3, type := 4, pos := "l07_store.go:29", after := #[{ on := 4, ground := Ground.data }, { on := 3, ground := Ground.guard }], guard := some (3, false) }) (v := undef) rfl (by kernel_rfl) (by kernel_rfl) (by kernel_rfl) (fun _ _ _ h => h) (Or.inr ⟨by rfl, rfl⟩) (by assumption) ?_
          try simp only [Act.put, List.setIfInBounds_toArray, List.set_cons_zero, List.set_cons_succ]
          refine wpAnyH_take (i := 6) (oi := { dst := some 48, op := Op.move (Operand.tmp 47), type := 4, pos := "l07_store.go:29", after := #[{ on := 5, ground := Ground.data }, { on := 3, ground := Ground.chain }, { on := 3, ground := Ground.guard }], guard := some (3, false) }) (v := undef) rfl (by kernel_rfl) (by kernel_rfl) (by kernel_rfl) (fun _ _ _ h => h) (Or.inr ⟨by rfl, rfl⟩) (by assumption) ?_
          try simp only [Act.put, List.setIfInBounds_toArray, List.set_cons_zero, List.set_cons_succ]
          refine wpAnyH_take (i := 7) (oi := { dst := some 49, op := Op.fieldAddr 57 (Operand.tmp 1) 2, type := 0, pos := "l07_store.go:29", after := #[{ on := 6, ground := Ground.guard }], guard := some (6, true) }) (v := undef) rfl (by kernel_rfl) (by kernel_rfl) (by kernel_rfl) (fun _ _ _ h => h) (Or.inr ⟨by rfl, rfl⟩) (by assumption) ?_
          try simp only [Act.put, List.setIfInBounds_toArray, List.set_cons_zero, List.set_cons_succ]
          refine wpAnyH_take (i := 8) (oi := { dst := some 50, op := Op.load 54 (Operand.tmp 49), type := 54, pos := "l07_store.go:29", after := #[{ on := 7, ground := Ground.data }, { on := 6, ground := Ground.guard }], guard := some (6, true) }) (v := undef) rfl (by kernel_rfl) (by kernel_rfl) (by kernel_rfl) (fun _ _ _ h => h) (Or.inr ⟨by rfl, rfl⟩) (by assumption) ?_
          try simp only [Act.put, List.setIfInBounds_toArray, List.set_cons_zero, List.set_cons_succ]
          refine wpAnyH_take (i := 9) (oi := { dst := some 51, op := Op.move (Operand.tmp 4), type := 3, pos := "l07_store.go:29", after := #[{ on := 6, ground := Ground.guard }], guard := some (6, true) }) (v := undef) rfl (by kernel_rfl) (by kernel_rfl) (by kernel_rfl) (fun _ _ _ h => h) (Or.inr ⟨by rfl, rfl⟩) (by assumption) ?_
          try simp only [Act.put, List.setIfInBounds_toArray, List.set_cons_zero, List.set_cons_succ]
          refine wpAnyH_take (i := 10) (oi := { dst := some 52, op := Op.binOp BinOp.sub 3 (Operand.tmp 51) (Operand.const (Value.int IntKind.i64 1)) 3, type := 3, pos := "l07_store.go:29", after := #[{ on := 9, ground := Ground.data }, { on := 6, ground := Ground.guard }], guard := some (6, true) }) (v := undef) rfl (by kernel_rfl) (by kernel_rfl) (by kernel_rfl) (fun _ _ _ h => h) (Or.inr ⟨by rfl, rfl⟩) (by assumption) ?_
          try simp only [Act.put, List.setIfInBounds_toArray, List.set_cons_zero, List.set_cons_succ]
          refine wpAnyH_take (i := 11) (oi := { dst := some 53, op := Op.indexAddr 54 (Operand.tmp 50) (Operand.tmp 52), type := 0, pos := "l07_store.go:29", after := #[{ on := 8, ground := Ground.data }, { on := 10, ground := Ground.data }, { on := 6, ground := Ground.guard }], guard := some (6, true) }) (v := undef) rfl (by kernel_rfl) (by kernel_rfl) (by kernel_rfl) (fun _ _ _ h => h) (Or.inr ⟨by rfl, rfl⟩) (by assumption) ?_
          try simp only [Act.put, List.setIfInBounds_toArray, List.set_cons_zero, List.set_cons_succ]
          refine wpAnyH_take (i := 12) (oi := { dst := some 54, op := Op.fieldAddr 77 (Operand.tmp 53) 0, type := 0, pos := "l07_store.go:29", after := #[{ on := 11, ground := Ground.data }, { on := 6, ground := Ground.guard }], guard := some (6, true) }) (v := undef) rfl (by kernel_rfl) (by kernel_rfl) (by kernel_rfl) (fun _ _ _ h => h) (Or.inr ⟨by rfl, rfl⟩) (by assumption) ?_
          try simp only [Act.put, List.setIfInBounds_toArray, List.set_cons_zero, List.set_cons_succ]
          refine wpAnyH_take (i := 13) (oi := { dst := some 55, op := Op.load 3 (Operand.tmp 54), type := 3, pos := "l07_store.go:29", after := #[{ on := 12, ground := Ground.data }, { on := 6, ground := Ground.guard }], guard := some (6, true) }) (v := undef) rfl (by kernel_rfl) (by kernel_rfl) (by kernel_rfl) (fun _ _ _ h => h) (Or.inr ⟨by rfl, rfl⟩) (by assumption) ?_
          try simp only [Act.put, List.setIfInBounds_toArray, List.set_cons_zero, List.set_cons_succ]
          refine wpAnyH_take (i := 14) (oi := { dst := some 56, op := Op.fieldAddr 77 (Operand.tmp 5) 0, type := 0, pos := "l07_store.go:29", after := #[{ on := 6, ground := Ground.guard }], guard := some (6, true) }) (v := undef) rfl (by kernel_rfl) (by kernel_rfl) (by kernel_rfl) (fun _ _ _ h => h) (Or.inr ⟨by rfl, rfl⟩) (by assumption) ?_
          try simp only [Act.put, List.setIfInBounds_toArray, List.set_cons_zero, List.set_cons_succ]
          refine wpAnyH_take (i := 15) (oi := { dst := some 57, op := Op.load 3 (Operand.tmp 56), type := 3, pos := "l07_store.go:29", after := #[{ on := 14, ground := Ground.data }, { on := 6, ground := Ground.guard }], guard := some (6, true) }) (v := undef) rfl (by kernel_rfl) (by kernel_rfl) (by kernel_rfl) (fun _ _ _ h => h) (Or.inr ⟨by rfl, rfl⟩) (by assumption) ?_
          try simp only [Act.put, List.setIfInBounds_toArray, List.set_cons_zero, List.set_cons_succ]
          refine wpAnyH_take (i := 16) (oi := { dst := some 58, op := Op.binOp BinOp.geq 3 (Operand.tmp 55) (Operand.tmp 57) 3, type := 4, pos := "l07_store.go:29", after := #[{ on := 13, ground := Ground.data }, { on := 15, ground := Ground.data }, { on := 6, ground := Ground.guard }], guard := some (6, true) }) (v := undef) rfl (by kernel_rfl) (by kernel_rfl) (by kernel_rfl) (fun _ _ _ h => h) (Or.inr ⟨by rfl, rfl⟩) (by assumption) ?_
          try simp only [Act.put, List.setIfInBounds_toArray, List.set_cons_zero, List.set_cons_succ]
          refine wpAnyH_take (i := 17) (oi := { dst := some 59, op := Op.pick (Operand.tmp 48) (Operand.tmp 58) (Operand.const (Value.bool false)), type := 4, pos := "l07_store.go:29", after := #[{ on := 6, ground := Ground.data }, { on := 16, ground := Ground.data }, { on := 3, ground := Ground.guard }], guard := some (3, false) }) (v := undef) rfl (by kernel_rfl) (by kernel_rfl) (by kernel_rfl) (fun _ _ _ h => h) (Or.inr ⟨by rfl, rfl⟩) (by assumption) ?_
          try simp only [Act.put, List.setIfInBounds_toArray, List.set_cons_zero, List.set_cons_succ]
          refine wpAnyH_take (i := 18) (oi := { dst := some 60, op := Op.pick (Operand.tmp 45) (Operand.const (Value.bool true)) (Operand.tmp 59), type := 4, pos := "l07_store.go:29", after := #[{ on := 3, ground := Ground.data }, { on := 17, ground := Ground.data }], guard := none }) (v := ?vb19_18) rfl (by kernel_rfl) (by kernel_rfl) (by kernel_rfl) (fun _ _ _ h => h) (Or.inl ⟨by rfl, ?hyb19_18⟩) (by assumption) ?restb19_18
          case hyb19_18 => (intro w hSw; (try dsimp only at hSw); go_simp; try with_reducible rfl)
          try simp only [Act.put, List.setIfInBounds_toArray, List.set_cons_zero, List.set_cons_succ]
          refine wpAnyH_take (i := 19) (oi := { dst := some 61, op := Op.move (Operand.tmp 60), type := 4, pos := "l07_store.go:29", after := #[{ on := 18, ground := Ground.data }, { on := 6, ground := Ground.chain }], guard := none }) (v := ?vb20_19) rfl (by kernel_rfl) (by kernel_rfl) (by kernel_rfl) (fun _ _ _ h => h) (Or.inl ⟨by rfl, ?hyb20_19⟩) (by assumption) ?restb20_19
          case hyb20_19 => (intro w hSw; (try dsimp only at hSw); go_simp; try with_reducible rfl)
          try simp only [Act.put, List.setIfInBounds_toArray, List.set_cons_zero, List.set_cons_succ]
          refine wpAnyH_take (i := 20) (oi := { dst := some 62, op := Op.load 57 (Operand.tmp 1), type := 57, pos := "l07_store.go:29", after := #[{ on := 19, ground := Ground.guard }], guard := some (19, false) }) (v := undef) rfl (by kernel_rfl) (by kernel_rfl) (by kernel_rfl) (fun _ _ _ h => h) (Or.inr ⟨by rfl, rfl⟩) (by assumption) ?_
          try simp only [Act.put, List.setIfInBounds_toArray, List.set_cons_zero, List.set_cons_succ]
          refine wpAnyH_take (i := 21) (oi := { dst := some 63, op := Op.fieldAddr 77 (Operand.tmp 5) 1, type := 0, pos := "l07_store.go:29", after := #[{ on := 19, ground := Ground.guard }], guard := some (19, false) }) (v := undef) rfl (by kernel_rfl) (by kernel_rfl) (by kernel_rfl) (fun _ _ _ h => h) (Or.inr ⟨by rfl, rfl⟩) (by assumption) ?_
          try simp only [Act.put, List.setIfInBounds_toArray, List.set_cons_zero, List.set_cons_succ]
          refine wpAnyH_take (i := 22) (oi := { dst := some 64, op := Op.load 9 (Operand.tmp 63), type := 9, pos := "l07_store.go:29", after := #[{ on := 21, ground := Ground.data }, { on := 19, ground := Ground.guard }], guard := some (19, false) }) (v := undef) rfl (by kernel_rfl) (by kernel_rfl) (by kernel_rfl) (fun _ _ _ h => h) (Or.inr ⟨by rfl, rfl⟩) (by assumption) ?_
          try simp only [Act.put, List.setIfInBounds_toArray, List.set_cons_zero, List.set_cons_succ]
          refine wpAnyH_take (i := 24) (oi := { dst := some 66, op := Op.move (Operand.tmp 4), type := 3, pos := "l07_store.go:29", after := #[{ on := 19, ground := Ground.guard }], guard := some (19, false) }) (v := undef) rfl (by kernel_rfl) (by kernel_rfl) (by kernel_rfl) (fun _ _ _ h => h) (Or.inr ⟨by rfl, rfl⟩) (by assumption) ?_
          try simp only [Act.put, List.setIfInBounds_toArray, List.set_cons_zero, List.set_cons_succ]
          refine wpAnyH_take (i := 23) (oi := { dst := some 65, op := Op.call { callee := Callee.value (Operand.func 115), args := #[Operand.tmp 62, Operand.tmp 64], argTypes := #[57, 9] }, type := 3, pos := "l07_store.go:29", after := #[{ on := 20, ground := Ground.data }, { on := 22, ground := Ground.data }, { on := 19, ground := Ground.chain }, { on := 19, ground := Ground.guard }], guard := some (19, false) }) (v := undef) rfl (by kernel_rfl) (by kernel_rfl) (by kernel_rfl) (fun _ _ _ h => h) (Or.inr ⟨by rfl, rfl⟩) (by assumption) ?_
          try simp only [Act.put, List.setIfInBounds_toArray, List.set_cons_zero, List.set_cons_succ]
          refine wpAnyH_take (i := 25) (oi := { dst := some 67, op := Op.binOp BinOp.neq 3 (Operand.tmp 65) (Operand.tmp 66) 3, type := 4, pos := "l07_store.go:29", after := #[{ on := 23, ground := Ground.data }, { on := 24, ground := Ground.data }, { on := 19, ground := Ground.guard }], guard := some (19, false) }) (v := undef) rfl (by kernel_rfl) (by kernel_rfl) (by kernel_rfl) (fun _ _ _ h => h) (Or.inr ⟨by rfl, rfl⟩) (by assumption) ?_
          try simp only [Act.put, List.setIfInBounds_toArray, List.set_cons_zero, List.set_cons_succ]
          refine wpAnyH_take (i := 26) (oi := { dst := some 68, op := Op.pick (Operand.tmp 61) (Operand.const (Value.bool true)) (Operand.tmp 67), type := 4, pos := "l07_store.go:29", after := #[{ on := 19, ground := Ground.data }, { on := 25, ground := Ground.data }], guard := none }) (v := ?vb27_26) rfl (by kernel_rfl) (by kernel_rfl) (by kernel_rfl) (fun _ _ _ h => h) (Or.inl ⟨by rfl, ?hyb27_26⟩) (by assumption) ?restb27_26
          case hyb27_26 => (intro w hSw; (try dsimp only at hSw); go_simp; try with_reducible rfl)
          try simp only [Act.put, List.setIfInBounds_toArray, List.set_cons_zero, List.set_cons_succ]
          refine wpAnyH_take (i := 27) (oi := { dst := some 69, op := Op.move (Operand.tmp 68), type := 4, pos := "l07_store.go:29", after := #[{ on := 26, ground := Ground.data }, { on := 23, ground := Ground.chain }], guard := none }) (v := ?vb28_27) rfl (by kernel_rfl) (by kernel_rfl) (by kernel_rfl) (fun _ _ _ h => h) (Or.inl ⟨by rfl, ?hyb28_27⟩) (by assumption) ?restb28_27
          case hyb28_27 => (intro w hSw; (try dsimp only at hSw); go_simp; try with_reducible rfl)
          try simp only [Act.put, List.setIfInBounds_toArray, List.set_cons_zero, List.set_cons_succ]
          refine wpAnyH_take (i := 28) (oi := { dst := some 70, op := Op.fieldAddr 57 (Operand.tmp 1) 3, type := 0, pos := "l07_store.go:29", after := #[{ on := 27, ground := Ground.guard }], guard := some (27, false) }) (v := undef) rfl (by kernel_rfl) (by kernel_rfl) (by kernel_rfl) (fun _ _ _ h => h) (Or.inr ⟨by rfl, rfl⟩) (by assumption) ?_
          try simp only [Act.put, List.setIfInBounds_toArray, List.set_cons_zero, List.set_cons_succ]
          refine wpAnyH_take (i := 29) (oi := { dst := some 71, op := Op.load 55 (Operand.tmp 70), type := 55, pos := "l07_store.go:29", after := #[{ on := 28, ground := Ground.data }, { on := 27, ground := Ground.guard }], guard := some (27, false) }) (v := undef) rfl (by kernel_rfl) (by kernel_rfl) (by kernel_rfl) (fun _ _ _ h => h) (Or.inr ⟨by rfl, rfl⟩) (by assumption) ?_
          try simp only [Act.put, List.setIfInBounds_toArray, List.set_cons_zero, List.set_cons_succ]
          refine wpAnyH_take (i := 30) (oi := { dst := some 72, op := Op.fieldAddr 77 (Operand.tmp 5) 0, type := 0, pos := "l07_store.go:29", after := #[{ on := 27, ground := Ground.guard }], guard := some (27, false) }) (v := undef) rfl (by kernel_rfl) (by kernel_rfl) (by kernel_rfl) (fun _ _ _ h => h) (Or.inr ⟨by rfl, rfl⟩) (by assumption) ?_
          try simp only [Act.put, List.setIfInBounds_toArray, List.set_cons_zero, List.set_cons_succ]
          refine wpAnyH_take (i := 31) (oi := { dst := some 73, op := Op.load 3 (Operand.tmp 72), type := 3, pos := "l07_store.go:29", after := #[{ on := 30, ground := Ground.data }, { on := 27, ground := Ground.guard }], guard := some (27, false) }) (v := undef) rfl (by kernel_rfl) (by kernel_rfl) (by kernel_rfl) (fun _ _ _ h => h) (Or.inr ⟨by rfl, rfl⟩) (by assumption) ?_
          try simp only [Act.put, List.setIfInBounds_toArray, List.set_cons_zero, List.set_cons_succ]
          refine wpAnyH_take (i := 32) (oi := { dst := some 74, op := Op.call { callee := Callee.value (Operand.func 113), args := #[Operand.tmp 71, Operand.tmp 73], argTypes := #[55, 3] }, type := 4, pos := "l07_store.go:29", after := #[{ on := 29, ground := Ground.data }, { on := 31, ground := Ground.data }, { on := 27, ground := Ground.chain }, { on := 27, ground := Ground.guard }], guard := some (27, false) }) (v := undef) rfl (by kernel_rfl) (by kernel_rfl) (by kernel_rfl) (fun _ _ _ h => h) (Or.inr ⟨by rfl, rfl⟩) (by assumption) ?_
          try simp only [Act.put, List.setIfInBounds_toArray, List.set_cons_zero, List.set_cons_succ]
          refine wpAnyH_take (i := 33) (oi := { dst := some 75, op := Op.pick (Operand.tmp 69) (Operand.const (Value.bool true)) (Operand.tmp 74), type := 4, pos := "l07_store.go:29", after := #[{ on := 27, ground := Ground.data }, { on := 32, ground := Ground.data }], guard := none }) (v := ?vb34_33) rfl (by kernel_rfl) (by kernel_rfl) (by kernel_rfl) (fun _ _ _ h => h) (Or.inl ⟨by rfl, ?hyb34_33⟩) (by assumption) ?restb34_33
          case hyb34_33 => (intro w hSw; (try dsimp only at hSw); go_simp; try with_reducible rfl)
          try simp only [Act.put, List.setIfInBounds_toArray, List.set_cons_zero, List.set_cons_succ]
          refine wpAnyH_take (i := 34) (oi := { dst := some 76, op := Op.move (Operand.tmp 75), type := 4, pos := "l07_store.go:29", after := #[{ on := 33, ground := Ground.data }, { on := 32, ground := Ground.chain }], guard := none }) (v := ?vb35_34) rfl (by kernel_rfl) (by kernel_rfl) (by kernel_rfl) (fun _ _ _ h => h) (Or.inl ⟨by rfl, ?hyb35_34⟩) (by assumption) ?restb35_34
          case hyb35_34 => (intro w hSw; (try dsimp only at hSw); go_simp; try with_reducible rfl)
          try simp only [Act.put, List.setIfInBounds_toArray, List.set_cons_zero, List.set_cons_succ]
          refine wpAnyH_take (i := 35) (oi := { dst := some 77, op := Op.load 77 (Operand.tmp 5), type := 77, pos := "l07_store.go:29", after := #[{ on := 34, ground := Ground.guard }], guard := some (34, false) }) (v := undef) rfl (by kernel_rfl) (by kernel_rfl) (by kernel_rfl) (fun _ _ _ h => h) (Or.inr ⟨by rfl, rfl⟩) (by assumption) ?_
          try simp only [Act.put, List.setIfInBounds_toArray, List.set_cons_zero, List.set_cons_succ]
          refine wpAnyH_take (i := 36) (oi := { dst := some 78, op := Op.fieldAddr 57 (Operand.tmp 1) 1, type := 0, pos := "l07_store.go:29", after := #[{ on := 34, ground := Ground.guard }], guard := some (34, false) }) (v := undef) rfl (by kernel_rfl) (by kernel_rfl) (by kernel_rfl) (fun _ _ _ h => h) (Or.inr ⟨by rfl, rfl⟩) (by assumption) ?_
          try simp only [Act.put, List.setIfInBounds_toArray, List.set_cons_zero, List.set_cons_succ]
          refine wpAnyH_take (i := 37) (oi := { dst := some 79, op := Op.load 3 (Operand.tmp 78), type := 3, pos := "l07_store.go:29", after := #[{ on := 36, ground := Ground.data }, { on := 34, ground := Ground.guard }], guard := some (34, false) }) (v := undef) rfl (by kernel_rfl) (by kernel_rfl) (by kernel_rfl) (fun _ _ _ h => h) (Or.inr ⟨by rfl, rfl⟩) (by assumption) ?_
          try simp only [Act.put, List.setIfInBounds_toArray, List.set_cons_zero, List.set_cons_succ]
          refine wpAnyH_take (i := 38) (oi := { dst := some 80, op := Op.call { callee := Callee.value (Operand.func 116), args := #[Operand.tmp 77, Operand.tmp 79], argTypes := #[77, 3] }, type := 4, pos := "l07_store.go:29", after := #[{ on := 35, ground := Ground.data }, { on := 37, ground := Ground.data }, { on := 34, ground := Ground.chain }, { on := 34, ground := Ground.guard }], guard := some (34, false) }) (v := undef) rfl (by kernel_rfl) (by kernel_rfl) (by kernel_rfl) (fun _ _ _ h => h) (Or.inr ⟨by rfl, rfl⟩) (by assumption) ?_
          try simp only [Act.put, List.setIfInBounds_toArray, List.set_cons_zero, List.set_cons_succ]
          refine wpAnyH_take (i := 39) (oi := { dst := some 81, op := Op.unOp UnOp.not 4 (Operand.tmp 80), type := 4, pos := "l07_store.go:29", after := #[{ on := 38, ground := Ground.data }, { on := 34, ground := Ground.guard }], guard := some (34, false) }) (v := undef) rfl (by kernel_rfl) (by kernel_rfl) (by kernel_rfl) (fun _ _ _ h => h) (Or.inr ⟨by rfl, rfl⟩) (by assumption) ?_
          try simp only [Act.put, List.setIfInBounds_toArray, List.set_cons_zero, List.set_cons_succ]
          refine wpAnyH_take (i := 40) (oi := { dst := some 82, op := Op.pick (Operand.tmp 76) (Operand.const (Value.bool true)) (Operand.tmp 81), type := 4, pos := "l07_store.go:29", after := #[{ on := 34, ground := Ground.data }, { on := 39, ground := Ground.data }], guard := none }) (v := ?vb41_40) rfl (by kernel_rfl) (by kernel_rfl) (by kernel_rfl) (fun _ _ _ h => h) (Or.inl ⟨by rfl, ?hyb41_40⟩) (by assumption) ?restb41_40
          case hyb41_40 => (intro w hSw; (try dsimp only at hSw); go_simp; try with_reducible rfl)
          try simp only [Act.put, List.setIfInBounds_toArray, List.set_cons_zero, List.set_cons_succ]
          refine wpAnyH_done (by kernel_rfl) ?_ _
          refine NoPanic.normal ?_
          have HE : Hid (sOk y tm S G = false) := by show _ = _; rw [HX.out, all_no (S := List.range S.length) (i := i) (by simpa using hil) (by rw [List.getElem_range, HST.out]; rfl), Bool.false_and]
          clear hHeld
          go_wp2
          go_ret
          exact ⟨by rw [HE.out]; rfl, btr HB.out (btr B1.out (by repeat (first | exact bre _ | refine bdr ?_ | refine btr ?_ (by assumption))))⟩
        · refine wpAnyH_take (i := 2) (oi := { dst := some 44, op := Op.unOp UnOp.not 4 (Operand.tmp 43), type := 4, pos := "l07_store.go:29", after := #[{ on := 1, ground := Ground.data }], guard := none }) (v := ?vb42_2) rfl (by kernel_rfl) (by kernel_rfl) (by kernel_rfl) (fun _ _ _ h => h) (Or.inl ⟨by rfl, ?hyb42_2⟩) (by assumption) ?restb42_2
          case hyb42_2 => (intro w hSw; (try dsimp only at hSw); go_simp; try with_reducible rfl)
          try simp only [Act.put, List.setIfInBounds_toArray, List.set_cons_zero, List.set_cons_succ]
          refine wpAnyH_take (i := 3) (oi := { dst := some 45, op := Op.move (Operand.tmp 44), type := 4, pos := "l07_store.go:29", after := #[{ on := 2, ground := Ground.data }, { on := 1, ground := Ground.chain }], guard := none }) (v := ?vb43_3) rfl (by kernel_rfl) (by kernel_rfl) (by kernel_rfl) (fun _ _ _ h => h) (Or.inl ⟨by rfl, ?hyb43_3⟩) (by assumption) ?restb43_3
          case hyb43_3 => (intro w hSw; (try dsimp only at hSw); go_simp; try with_reducible rfl)
          try simp only [Act.put, List.setIfInBounds_toArray, List.set_cons_zero, List.set_cons_succ]
          refine wpAnyH_take (i := 4) (oi := { dst := some 46, op := Op.move (Operand.tmp 4), type := 3, pos := "l07_store.go:29", after := #[{ on := 3, ground := Ground.guard }], guard := some (3, false) }) (v := ?vb44_4) rfl (by kernel_rfl) (by kernel_rfl) (by kernel_rfl) (fun _ _ _ h => h) (Or.inl ⟨by rfl, ?hyb44_4⟩) (by assumption) ?restb44_4
          case hyb44_4 => (intro w hSw; (try dsimp only at hSw); go_simp; try with_reducible rfl)
          try simp only [Act.put, List.setIfInBounds_toArray, List.set_cons_zero, List.set_cons_succ]
          · refine wpAnyH_take (i := 5) (oi := { dst := some 47, op := Op.binOp BinOp.gtr 3 (Operand.tmp 46) (Operand.const (Value.int IntKind.i64 0)) 3, type := 4, pos := "l07_store.go:29", after := #[{ on := 4, ground := Ground.data }, { on := 3, ground := Ground.guard }], guard := some (3, false) }) (v := ?vb45_5) rfl (by kernel_rfl) (by kernel_rfl) (by kernel_rfl) (fun _ _ _ h => h) (Or.inl ⟨by rfl, ?hyb45_5⟩) (by assumption) ?restb45_5
            case hyb45_5 => (intro w hSw; (try dsimp only at hSw); go_simp; try with_reducible rfl)
            try simp only [Act.put, List.setIfInBounds_toArray, List.set_cons_zero, List.set_cons_succ]
            refine wpAnyH_take (i := 6) (oi := { dst := some 48, op := Op.move (Operand.tmp 47), type := 4, pos := "l07_store.go:29", after := #[{ on := 5, ground := Ground.data }, { on := 3, ground := Ground.chain }, { on := 3, ground := Ground.guard }], guard := some (3, false) }) (v := ?vb46_6) rfl (by kernel_rfl) (by kernel_rfl) (by kernel_rfl) (fun _ _ _ h => h) (Or.inl ⟨by rfl, ?hyb46_6⟩) (by assumption) ?restb46_6
            case hyb46_6 => (intro w hSw; (try dsimp only at hSw); go_simp; try with_reducible rfl)
            try simp only [Act.put, List.setIfInBounds_toArray, List.set_cons_zero, List.set_cons_succ]
            refine wpAnyH_take (i := 7) (oi := { dst := some 49, op := Op.fieldAddr 57 (Operand.tmp 1) 2, type := 0, pos := "l07_store.go:29", after := #[{ on := 6, ground := Ground.guard }], guard := some (6, true) }) (v := undef) rfl (by kernel_rfl) (by kernel_rfl) (by kernel_rfl) (fun _ _ _ h => h) (Or.inr ⟨by rfl, rfl⟩) (by assumption) ?_
            try simp only [Act.put, List.setIfInBounds_toArray, List.set_cons_zero, List.set_cons_succ]
            refine wpAnyH_take (i := 8) (oi := { dst := some 50, op := Op.load 54 (Operand.tmp 49), type := 54, pos := "l07_store.go:29", after := #[{ on := 7, ground := Ground.data }, { on := 6, ground := Ground.guard }], guard := some (6, true) }) (v := undef) rfl (by kernel_rfl) (by kernel_rfl) (by kernel_rfl) (fun _ _ _ h => h) (Or.inr ⟨by rfl, rfl⟩) (by assumption) ?_
            try simp only [Act.put, List.setIfInBounds_toArray, List.set_cons_zero, List.set_cons_succ]
            refine wpAnyH_take (i := 9) (oi := { dst := some 51, op := Op.move (Operand.tmp 4), type := 3, pos := "l07_store.go:29", after := #[{ on := 6, ground := Ground.guard }], guard := some (6, true) }) (v := undef) rfl (by kernel_rfl) (by kernel_rfl) (by kernel_rfl) (fun _ _ _ h => h) (Or.inr ⟨by rfl, rfl⟩) (by assumption) ?_
            try simp only [Act.put, List.setIfInBounds_toArray, List.set_cons_zero, List.set_cons_succ]
            refine wpAnyH_take (i := 10) (oi := { dst := some 52, op := Op.binOp BinOp.sub 3 (Operand.tmp 51) (Operand.const (Value.int IntKind.i64 1)) 3, type := 3, pos := "l07_store.go:29", after := #[{ on := 9, ground := Ground.data }, { on := 6, ground := Ground.guard }], guard := some (6, true) }) (v := undef) rfl (by kernel_rfl) (by kernel_rfl) (by kernel_rfl) (fun _ _ _ h => h) (Or.inr ⟨by rfl, rfl⟩) (by assumption) ?_
            try simp only [Act.put, List.setIfInBounds_toArray, List.set_cons_zero, List.set_cons_succ]
            refine wpAnyH_take (i := 11) (oi := { dst := some 53, op := Op.indexAddr 54 (Operand.tmp 50) (Operand.tmp 52), type := 0, pos := "l07_store.go:29", after := #[{ on := 8, ground := Ground.data }, { on := 10, ground := Ground.data }, { on := 6, ground := Ground.guard }], guard := some (6, true) }) (v := undef) rfl (by kernel_rfl) (by kernel_rfl) (by kernel_rfl) (fun _ _ _ h => h) (Or.inr ⟨by rfl, rfl⟩) (by assumption) ?_
            try simp only [Act.put, List.setIfInBounds_toArray, List.set_cons_zero, List.set_cons_succ]
            refine wpAnyH_take (i := 12) (oi := { dst := some 54, op := Op.fieldAddr 77 (Operand.tmp 53) 0, type := 0, pos := "l07_store.go:29", after := #[{ on := 11, ground := Ground.data }, { on := 6, ground := Ground.guard }], guard := some (6, true) }) (v := undef) rfl (by kernel_rfl) (by kernel_rfl) (by kernel_rfl) (fun _ _ _ h => h) (Or.inr ⟨by rfl, rfl⟩) (by assumption) ?_
            try simp only [Act.put, List.setIfInBounds_toArray, List.set_cons_zero, List.set_cons_succ]
            refine wpAnyH_take (i := 13) (oi := { dst := some 55, op := Op.load 3 (Operand.tmp 54), type := 3, pos := "l07_store.go:29", after := #[{ on := 12, ground := Ground.data }, { on := 6, ground := Ground.guard }], guard := some (6, true) }) (v := undef) rfl (by kernel_rfl) (by kernel_rfl) (by kernel_rfl) (fun _ _ _ h => h) (Or.inr ⟨by rfl, rfl⟩) (by assumption) ?_
            try simp only [Act.put, List.setIfInBounds_toArray, List.set_cons_zero, List.set_cons_succ]
            refine wpAnyH_take (i := 14) (oi := { dst := some 56, op := Op.fieldAddr 77 (Operand.tmp 5) 0, type := 0, pos := "l07_store.go:29", after := #[{ on := 6, ground := Ground.guard }], guard := some (6, true) }) (v := undef) rfl (by kernel_rfl) (by kernel_rfl) (by kernel_rfl) (fun _ _ _ h => h) (Or.inr ⟨by rfl, rfl⟩) (by assumption) ?_
            try simp only [Act.put, List.setIfInBounds_toArray, List.set_cons_zero, List.set_cons_succ]
            refine wpAnyH_take (i := 15) (oi := { dst := some 57, op := Op.load 3 (Operand.tmp 56), type := 3, pos := "l07_store.go:29", after := #[{ on := 14, ground := Ground.data }, { on := 6, ground := Ground.guard }], guard := some (6, true) }) (v := undef) rfl (by kernel_rfl) (by kernel_rfl) (by kernel_rfl) (fun _ _ _ h => h) (Or.inr ⟨by rfl, rfl⟩) (by assumption) ?_
            try simp only [Act.put, List.setIfInBounds_toArray, List.set_cons_zero, List.set_cons_succ]
            refine wpAnyH_take (i := 16) (oi := { dst := some 58, op := Op.binOp BinOp.geq 3 (Operand.tmp 55) (Operand.tmp 57) 3, type := 4, pos := "l07_store.go:29", after := #[{ on := 13, ground := Ground.data }, { on := 15, ground := Ground.data }, { on := 6, ground := Ground.guard }], guard := some (6, true) }) (v := undef) rfl (by kernel_rfl) (by kernel_rfl) (by kernel_rfl) (fun _ _ _ h => h) (Or.inr ⟨by rfl, rfl⟩) (by assumption) ?_
            try simp only [Act.put, List.setIfInBounds_toArray, List.set_cons_zero, List.set_cons_succ]
            refine wpAnyH_take (i := 17) (oi := { dst := some 59, op := Op.pick (Operand.tmp 48) (Operand.tmp 58) (Operand.const (Value.bool false)), type := 4, pos := "l07_store.go:29", after := #[{ on := 6, ground := Ground.data }, { on := 16, ground := Ground.data }, { on := 3, ground := Ground.guard }], guard := some (3, false) }) (v := ?vb57_17) rfl (by kernel_rfl) (by kernel_rfl) (by kernel_rfl) (fun _ _ _ h => h) (Or.inl ⟨by rfl, ?hyb57_17⟩) (by assumption) ?restb57_17
            case hyb57_17 => (intro w hSw; (try dsimp only at hSw); go_simp; try with_reducible rfl)
            try simp only [Act.put, List.setIfInBounds_toArray, List.set_cons_zero, List.set_cons_succ]
            refine wpAnyH_take (i := 18) (oi := { dst := some 60, op := Op.pick (Operand.tmp 45) (Operand.const (Value.bool true)) (Operand.tmp 59), type := 4, pos := "l07_store.go:29", after := #[{ on := 3, ground := Ground.data }, { on := 17, ground := Ground.data }], guard := none }) (v := ?vb58_18) rfl (by kernel_rfl) (by kernel_rfl) (by kernel_rfl) (fun _ _ _ h => h) (Or.inl ⟨by rfl, ?hyb58_18⟩) (by assumption) ?restb58_18
            case hyb58_18 => (intro w hSw; (try dsimp only at hSw); go_simp; try with_reducible rfl)
            try simp only [Act.put, List.setIfInBounds_toArray, List.set_cons_zero, List.set_cons_succ]
            refine wpAnyH_take (i := 19) (oi := { dst := some 61, op := Op.move (Operand.tmp 60), type := 4, pos := "l07_store.go:29", after := #[{ on := 18, ground := Ground.data }, { on := 6, ground := Ground.chain }], guard := none }) (v := ?vb59_19) rfl (by kernel_rfl) (by kernel_rfl) (by kernel_rfl) (fun _ _ _ h => h) (Or.inl ⟨by rfl, ?hyb59_19⟩) (by assumption) ?restb59_19
            case hyb59_19 => (intro w hSw; (try dsimp only at hSw); go_simp; try with_reducible rfl)
            try simp only [Act.put, List.setIfInBounds_toArray, List.set_cons_zero, List.set_cons_succ]
            refine wpAnyH_take (i := 20) (oi := { dst := some 62, op := Op.load 57 (Operand.tmp 1), type := 57, pos := "l07_store.go:29", after := #[{ on := 19, ground := Ground.guard }], guard := some (19, false) }) (v := ?vb60_20) rfl (by kernel_rfl) (by kernel_rfl) (by kernel_rfl) (fun _ _ _ h => h) (Or.inl ⟨by rfl, ?hyb60_20⟩) (by assumption) ?restb60_20
            case hyb60_20 => (intro w hSw; (try dsimp only at hSw); go_simp; try with_reducible rfl)
            try simp only [Act.put, List.setIfInBounds_toArray, List.set_cons_zero, List.set_cons_succ]
            refine wpAnyH_take (i := 21) (oi := { dst := some 63, op := Op.fieldAddr 77 (Operand.tmp 5) 1, type := 0, pos := "l07_store.go:29", after := #[{ on := 19, ground := Ground.guard }], guard := some (19, false) }) (v := ?vb61_21) rfl (by kernel_rfl) (by kernel_rfl) (by kernel_rfl) (fun _ _ _ h => h) (Or.inl ⟨by rfl, ?hyb61_21⟩) (by assumption) ?restb61_21
            case hyb61_21 => (intro w hSw; (try dsimp only at hSw); go_simp; try with_reducible rfl)
            try simp only [Act.put, List.setIfInBounds_toArray, List.set_cons_zero, List.set_cons_succ]
            refine wpAnyH_take (i := 22) (oi := { dst := some 64, op := Op.load 9 (Operand.tmp 63), type := 9, pos := "l07_store.go:29", after := #[{ on := 21, ground := Ground.data }, { on := 19, ground := Ground.guard }], guard := some (19, false) }) (v := ?vb62_22) rfl (by kernel_rfl) (by kernel_rfl) (by kernel_rfl) (fun _ _ _ h => h) (Or.inl ⟨by rfl, ?hyb62_22⟩) (by assumption) ?restb62_22
            case hyb62_22 => (intro w hSw; (try dsimp only at hSw); go_simp; try with_reducible rfl)
            try simp only [Act.put, List.setIfInBounds_toArray, List.set_cons_zero, List.set_cons_succ]
            refine wpAnyH_take (i := 24) (oi := { dst := some 66, op := Op.move (Operand.tmp 4), type := 3, pos := "l07_store.go:29", after := #[{ on := 19, ground := Ground.guard }], guard := some (19, false) }) (v := ?vb63_24) rfl (by kernel_rfl) (by kernel_rfl) (by kernel_rfl) (fun _ _ _ h => h) (Or.inl ⟨by rfl, ?hyb63_24⟩) (by assumption) ?restb63_24
            case hyb63_24 => (intro w hSw; (try dsimp only at hSw); go_simp; try with_reducible rfl)
            try simp only [Act.put, List.setIfInBounds_toArray, List.set_cons_zero, List.set_cons_succ]
            clear hHeld
            refine wpAnyH_ready (rs := [23]) (by kernel_rfl) (by simp) ?_
            refine AllReadyH.cons (o := { dst := some 65, op := Op.call { callee := Callee.value (Operand.func 115), args := #[Operand.tmp 62, Operand.tmp 64], argTypes := #[57, 9] }, type := 3, pos := "l07_store.go:29", after := #[{ on := 20, ground := Ground.data }, { on := 22, ground := Ground.data }, { on := 19, ground := Ground.chain }, { on := 19, ground := Ground.guard }], guard := some (19, false) }) rfl (fun K hK => ?_) AllReadyH.nil
            go_simp
            refine (specBoxNamed_any lo hi y tm (some ⟨k, o, none⟩) bn bc (.slice ga gn gc) S nm1 _ HL.out HN.out (HR.out.later (btr HB.out (btr B1.out (by repeat (first | exact bre _ | refine bdr ?_ | refine btr ?_ (by assumption))))))).mono ?_; rintro e w3 ⟨rfl, hb3⟩
            rw [HZN.out]
            go_wp2_with fail
            refine hK.out _ _ (HS.out _ (by repeat (first | exact bre _ | refine bdr ?_ | refine btr ?_ (by assumption)))) (fun hHeld => ?_)
            clear hK K
            try simp only [Act.put, List.setIfInBounds_toArray, List.set_cons_zero, List.set_cons_succ]
            by_cases hzn : zn = (i : Int)
            · have hzn2 : (zn != (i : Int)) = false := by simp [hzn]
              refine wpAnyH_take (i := 25) (oi := { dst := some 67, op := Op.binOp BinOp.neq 3 (Operand.tmp 65) (Operand.tmp 66) 3, type := 4, pos := "l07_store.go:29", after := #[{ on := 23, ground := Ground.data }, { on := 24, ground := Ground.data }, { on := 19, ground := Ground.guard }], guard := some (19, false) }) (v := ?vb65_25) rfl (by kernel_rfl) (by kernel_rfl) (by kernel_rfl) (fun _ _ _ h => h) (Or.inl ⟨by rfl, ?hyb65_25⟩) (by assumption) ?restb65_25
              case hyb65_25 => (intro w hSw; (try dsimp only at hSw); go_simp; try with_reducible rfl)
              try simp only [Act.put, List.setIfInBounds_toArray, List.set_cons_zero, List.set_cons_succ]
              refine wpAnyH_take (i := 26) (oi := { dst := some 68, op := Op.pick (Operand.tmp 61) (Operand.const (Value.bool true)) (Operand.tmp 67), type := 4, pos := "l07_store.go:29", after := #[{ on := 19, ground := Ground.data }, { on := 25, ground := Ground.data }], guard := none }) (v := ?vb66_26) rfl (by kernel_rfl) (by kernel_rfl) (by kernel_rfl) (fun _ _ _ h => h) (Or.inl ⟨by rfl, ?hyb66_26⟩) (by assumption) ?restb66_26
              case hyb66_26 => (intro w hSw; (try dsimp only at hSw); go_simp; try with_reducible rfl)
              try simp only [Act.put, List.setIfInBounds_toArray, List.set_cons_zero, List.set_cons_succ]
              refine wpAnyH_take (i := 27) (oi := { dst := some 69, op := Op.move (Operand.tmp 68), type := 4, pos := "l07_store.go:29", after := #[{ on := 26, ground := Ground.data }, { on := 23, ground := Ground.chain }], guard := none }) (v := ?vb67_27) rfl (by kernel_rfl) (by kernel_rfl) (by kernel_rfl) (fun _ _ _ h => h) (Or.inl ⟨by rfl, ?hyb67_27⟩) (by assumption) ?restb67_27
              case hyb67_27 => (intro w hSw; (try dsimp only at hSw); go_simp; try with_reducible rfl)
              try simp only [Act.put, List.setIfInBounds_toArray, List.set_cons_zero, List.set_cons_succ]
              refine wpAnyH_take (i := 28) (oi := { dst := some 70, op := Op.fieldAddr 57 (Operand.tmp 1) 3, type := 0, pos := "l07_store.go:29", after := #[{ on := 27, ground := Ground.guard }], guard := some (27, false) }) (v := ?vb68_28) rfl (by kernel_rfl) (by kernel_rfl) (by kernel_rfl) (fun _ _ _ h => h) (Or.inl ⟨by rfl, ?hyb68_28⟩) (by assumption) ?restb68_28
              case hyb68_28 => (intro w hSw; (try dsimp only at hSw); go_simp; try with_reducible rfl)
              try simp only [Act.put, List.setIfInBounds_toArray, List.set_cons_zero, List.set_cons_succ]
              refine wpAnyH_take (i := 29) (oi := { dst := some 71, op := Op.load 55 (Operand.tmp 70), type := 55, pos := "l07_store.go:29", after := #[{ on := 28, ground := Ground.data }, { on := 27, ground := Ground.guard }], guard := some (27, false) }) (v := ?vb69_29) rfl (by kernel_rfl) (by kernel_rfl) (by kernel_rfl) (fun _ _ _ h => h) (Or.inl ⟨by rfl, ?hyb69_29⟩) (by assumption) ?restb69_29
              case hyb69_29 => (intro w hSw; (try dsimp only at hSw); go_simp; try with_reducible rfl)
              try simp only [Act.put, List.setIfInBounds_toArray, List.set_cons_zero, List.set_cons_succ]
              refine wpAnyH_take (i := 30) (oi := { dst := some 72, op := Op.fieldAddr 77 (Operand.tmp 5) 0, type := 0, pos := "l07_store.go:29", after := #[{ on := 27, ground := Ground.guard }], guard := some (27, false) }) (v := ?vb70_30) rfl (by kernel_rfl) (by kernel_rfl) (by kernel_rfl) (fun _ _ _ h => h) (Or.inl ⟨by rfl, ?hyb70_30⟩) (by assumption) ?restb70_30
              case hyb70_30 => (intro w hSw; (try dsimp only at hSw); go_simp; try with_reducible rfl)
              try simp only [Act.put, List.setIfInBounds_toArray, List.set_cons_zero, List.set_cons_succ]
              refine wpAnyH_take (i := 31) (oi := { dst := some 73, op := Op.load 3 (Operand.tmp 72), type := 3, pos := "l07_store.go:29", after := #[{ on := 30, ground := Ground.data }, { on := 27, ground := Ground.guard }], guard := some (27, false) }) (v := ?vb71_31) rfl (by kernel_rfl) (by kernel_rfl) (by kernel_rfl) (fun _ _ _ h => h) (Or.inl ⟨by rfl, ?hyb71_31⟩) (by assumption) ?restb71_31
              case hyb71_31 => (intro w hSw; (try dsimp only at hSw); go_simp; try with_reducible rfl)
              try simp only [Act.put, List.setIfInBounds_toArray, List.set_cons_zero, List.set_cons_succ]
              clear hHeld
              refine wpAnyH_ready (rs := [32]) (by kernel_rfl) (by simp) ?_
              refine AllReadyH.cons (o := { dst := some 74, op := Op.call { callee := Callee.value (Operand.func 113), args := #[Operand.tmp 71, Operand.tmp 73], argTypes := #[55, 3] }, type := 4, pos := "l07_store.go:29", after := #[{ on := 29, ground := Ground.data }, { on := 31, ground := Ground.data }, { on := 27, ground := Ground.chain }, { on := 27, ground := Ground.guard }], guard := some (27, false) }) rfl (fun K hK => ?_) AllReadyH.nil
              go_simp
              refine (l06In_any lo' hi' ga gn gc G g1 _ HGL.out HGN.out (HIS.out.later (btr HB.out (btr B1.out (by repeat (first | exact bre _ | refine bdr ?_ | refine btr ?_ (by assumption))))))).mono ?_; rintro e w4 ⟨rfl, h4⟩
              subst h4
              rw [HSI.out]
              go_wp2_with fail
              refine hK.out _ _ (HS.out _ (by repeat (first | exact bre _ | refine bdr ?_ | refine btr ?_ (by assumption)))) (fun hHeld => ?_)
              clear hK K
              try simp only [Act.put, List.setIfInBounds_toArray, List.set_cons_zero, List.set_cons_succ]
              cases si
              · refine wpAnyH_take (i := 33) (oi := { dst := some 75, op := Op.pick (Operand.tmp 69) (Operand.const (Value.bool true)) (Operand.tmp 74), type := 4, pos := "l07_store.go:29", after := #[{ on := 27, ground := Ground.data }, { on := 32, ground := Ground.data }], guard := none }) (v := ?vb73_33) rfl (by kernel_rfl) (by kernel_rfl) (by kernel_rfl) (fun _ _ _ h => h) (Or.inl ⟨by rfl, ?hyb73_33⟩) (by assumption) ?restb73_33
                case hyb73_33 => (intro w hSw; (try dsimp only at hSw); go_simp; try with_reducible rfl)
                try simp only [Act.put, List.setIfInBounds_toArray, List.set_cons_zero, List.set_cons_succ]
                refine wpAnyH_take (i := 34) (oi := { dst := some 76, op := Op.move (Operand.tmp 75), type := 4, pos := "l07_store.go:29", after := #[{ on := 33, ground := Ground.data }, { on := 32, ground := Ground.chain }], guard := none }) (v := ?vb74_34) rfl (by kernel_rfl) (by kernel_rfl) (by kernel_rfl) (fun _ _ _ h => h) (Or.inl ⟨by rfl, ?hyb74_34⟩) (by assumption) ?restb74_34
                case hyb74_34 => (intro w hSw; (try dsimp only at hSw); go_simp; try with_reducible rfl)
                try simp only [Act.put, List.setIfInBounds_toArray, List.set_cons_zero, List.set_cons_succ]
                refine wpAnyH_take (i := 35) (oi := { dst := some 77, op := Op.load 77 (Operand.tmp 5), type := 77, pos := "l07_store.go:29", after := #[{ on := 34, ground := Ground.guard }], guard := some (34, false) }) (v := ?vb75_35) rfl (by kernel_rfl) (by kernel_rfl) (by kernel_rfl) (fun _ _ _ h => h) (Or.inl ⟨by rfl, ?hyb75_35⟩) (by assumption) ?restb75_35
                case hyb75_35 => (intro w hSw; (try dsimp only at hSw); go_simp; try with_reducible rfl)
                try simp only [Act.put, List.setIfInBounds_toArray, List.set_cons_zero, List.set_cons_succ]
                refine wpAnyH_take (i := 36) (oi := { dst := some 78, op := Op.fieldAddr 57 (Operand.tmp 1) 1, type := 0, pos := "l07_store.go:29", after := #[{ on := 34, ground := Ground.guard }], guard := some (34, false) }) (v := ?vb76_36) rfl (by kernel_rfl) (by kernel_rfl) (by kernel_rfl) (fun _ _ _ h => h) (Or.inl ⟨by rfl, ?hyb76_36⟩) (by assumption) ?restb76_36
                case hyb76_36 => (intro w hSw; (try dsimp only at hSw); go_simp; try with_reducible rfl)
                try simp only [Act.put, List.setIfInBounds_toArray, List.set_cons_zero, List.set_cons_succ]
                refine wpAnyH_take (i := 37) (oi := { dst := some 79, op := Op.load 3 (Operand.tmp 78), type := 3, pos := "l07_store.go:29", after := #[{ on := 36, ground := Ground.data }, { on := 34, ground := Ground.guard }], guard := some (34, false) }) (v := ?vb77_37) rfl (by kernel_rfl) (by kernel_rfl) (by kernel_rfl) (fun _ _ _ h => h) (Or.inl ⟨by rfl, ?hyb77_37⟩) (by assumption) ?restb77_37
                case hyb77_37 => (intro w hSw; (try dsimp only at hSw); go_simp; try with_reducible rfl)
                try simp only [Act.put, List.setIfInBounds_toArray, List.set_cons_zero, List.set_cons_succ]
                clear hHeld
                refine wpAnyH_ready (rs := [38]) (by kernel_rfl) (by simp) ?_
                refine AllReadyH.cons (o := { dst := some 80, op := Op.call { callee := Callee.value (Operand.func 116), args := #[Operand.tmp 77, Operand.tmp 79], argTypes := #[77, 3] }, type := 4, pos := "l07_store.go:29", after := #[{ on := 35, ground := Ground.data }, { on := 37, ground := Ground.data }, { on := 34, ground := Ground.chain }, { on := 34, ground := Ground.guard }], guard := some (34, false) }) rfl (fun K hK => ?_) AllReadyH.nil
                go_simp
                refine (l07Times_any lo hi g1 nm1 t1 b1 nx1 ma1 m1 mc1 (.slice ga1 n1 gc1) L1 tm _ HM1.out HML.out HSL.out (HMS.out.later (btr HB.out (btr B1.out (by repeat (first | exact bre _ | refine bdr ?_ | refine btr ?_ (by assumption))))))).mono ?_; rintro e w5 ⟨rfl, hb5⟩
                rw [HTM.out]
                go_wp2_with fail
                refine hK.out _ _ (HS.out _ (by repeat (first | exact bre _ | refine bdr ?_ | refine btr ?_ (by assumption)))) (fun hHeld => ?_)
                clear hK K
                try simp only [Act.put, List.setIfInBounds_toArray, List.set_cons_zero, List.set_cons_succ]
                cases tk
                · refine wpAnyH_take (i := 39) (oi := { dst := some 81, op := Op.unOp UnOp.not 4 (Operand.tmp 80), type := 4, pos := "l07_store.go:29", after := #[{ on := 38, ground := Ground.data }, { on := 34, ground := Ground.guard }], guard := some (34, false) }) (v := ?vb79_39) rfl (by kernel_rfl) (by kernel_rfl) (by kernel_rfl) (fun _ _ _ h => h) (Or.inl ⟨by rfl, ?hyb79_39⟩) (by assumption) ?restb79_39
                  case hyb79_39 => (intro w hSw; (try dsimp only at hSw); go_simp; try with_reducible rfl)
                  try simp only [Act.put, List.setIfInBounds_toArray, List.set_cons_zero, List.set_cons_succ]
                  refine wpAnyH_take (i := 40) (oi := { dst := some 82, op := Op.pick (Operand.tmp 76) (Operand.const (Value.bool true)) (Operand.tmp 81), type := 4, pos := "l07_store.go:29", after := #[{ on := 34, ground := Ground.data }, { on := 39, ground := Ground.data }], guard := none }) (v := ?vb80_40) rfl (by kernel_rfl) (by kernel_rfl) (by kernel_rfl) (fun _ _ _ h => h) (Or.inl ⟨by rfl, ?hyb80_40⟩) (by assumption) ?restb80_40
                  case hyb80_40 => (intro w hSw; (try dsimp only at hSw); go_simp; try with_reducible rfl)
                  try simp only [Act.put, List.setIfInBounds_toArray, List.set_cons_zero, List.set_cons_succ]
                  refine wpAnyH_done (by kernel_rfl) ?_ _
                  refine NoPanic.normal ?_
                  have HE : Hid (sOk y tm S G = false) := by show _ = _; rw [HX.out, all_no (S := List.range S.length) (i := i) (by simpa using hil) (by rw [List.getElem_range, HST.out]; simp), Bool.false_and]
                  clear hHeld
                  go_wp2
                  go_ret
                  exact ⟨by rw [HE.out]; rfl, btr HB.out (btr B1.out (by repeat (first | exact bre _ | refine bdr ?_ | refine btr ?_ (by assumption))))⟩
                · refine wpAnyH_take (i := 39) (oi := { dst := some 81, op := Op.unOp UnOp.not 4 (Operand.tmp 80), type := 4, pos := "l07_store.go:29", after := #[{ on := 38, ground := Ground.data }, { on := 34, ground := Ground.guard }], guard := some (34, false) }) (v := ?vb81_39) rfl (by kernel_rfl) (by kernel_rfl) (by kernel_rfl) (fun _ _ _ h => h) (Or.inl ⟨by rfl, ?hyb81_39⟩) (by assumption) ?restb81_39
                  case hyb81_39 => (intro w hSw; (try dsimp only at hSw); go_simp; try with_reducible rfl)
                  try simp only [Act.put, List.setIfInBounds_toArray, List.set_cons_zero, List.set_cons_succ]
                  refine wpAnyH_take (i := 40) (oi := { dst := some 82, op := Op.pick (Operand.tmp 76) (Operand.const (Value.bool true)) (Operand.tmp 81), type := 4, pos := "l07_store.go:29", after := #[{ on := 34, ground := Ground.data }, { on := 39, ground := Ground.data }], guard := none }) (v := ?vb82_40) rfl (by kernel_rfl) (by kernel_rfl) (by kernel_rfl) (fun _ _ _ h => h) (Or.inl ⟨by rfl, ?hyb82_40⟩) (by assumption) ?restb82_40
                  case hyb82_40 => (intro w hSw; (try dsimp only at hSw); go_simp; try with_reducible rfl)
                  try simp only [Act.put, List.setIfInBounds_toArray, List.set_cons_zero, List.set_cons_succ]
                  refine wpAnyH_done (by kernel_rfl) ?_ _
                  refine NoPanic.normal ?_
                  have hp0 : 0 < g1 := HP0.out (by first | rfl | trivial)
                  have HE : Hid (∀ j, j < i + 1 → j < S.length → stp7 tm G S j = true) := by
                    intro j hj h
                    by_cases hji : j < i
                    · exact HA.out j hji h
                    · obtain rfl : j = i := by omega
                      rw [HST.out]; simp [hp0, hzn]
                  have AB : Hid (Bx w5 wq.heap.size 77 g1 nm1 t1 b1 nx1 (.slice ma1 m1 mc1) (.slice ga1 n1 gc1)) := A1.out.later (by repeat (first | exact bre _ | refine bdr ?_ | refine btr ?_ (by assumption)))
                  have HBV : Hid (Below wq.heap.size wq w5) := by show Below _ _ _; refine btr B1.out ?_; repeat (first | exact bre _ | refine bdr ?_ | refine btr ?_ (by assumption))
                  have A7 := hid (A6.out.later HBV.out)
                  have O7 := hid (own_later HOW.out HBV.out)
                  have B7 := hid (btr HB.out HBV.out)
                  have HOL : Hid (∀ j, Value.ownBlock vv = some j → j ≠ wq.heap.size) := fun j hj e => by have := (HOW.out.lt j hj).2; omega
                  clear hHeld
                  go_wp2
                  go_loopw [3, 6] (fun vv2 kv wr => ∃ k2 : Nat, k2 ≤ m1 ∧ kv = .int .i64 (k2 : Int) ∧ OwI wr (w.heap.size + 1) vv2 (gids (S.take i) ++ (L1.take k2).map (fun m => m.1)) ∧ Hid ((gids (S.take i) ++ (L1.take k2).map (fun m => m.1)).Nodup) ∧ (∀ j, vv2.ownBlock = some j → j ≠ wq.heap.size) ∧ Bx wr wq.heap.size 77 g1 nm1 t1 b1 nx1 (.slice ma1 m1 mc1) (.slice ga1 n1 gc1) ∧ Below (w.heap.size + 1) w5 wr) (fun _ kv _ => m1 - (intOf kv).toNat)
                  case atStart => exact ⟨0, Nat.zero_le _, rfl, by simpa using O7.out, by show List.Nodup _; simpa using HND.out, HOL.out, AB.out, Below.refl _ _⟩
                  case round =>
                    obtain ⟨k2, hk2, rfl, hown, HND2, hob, hbx, hbl⟩ := hrel
                    have HO2 := hid hown
                    have HOB := hid hob
                    have X2 := hid hbx
                    have HBL := hid hbl
                    have c1 := hbx.cells
                    have hml := HML.out
                    have HT : Hid (Below w.heap.size w wr) := B7.out.trans (hbl.mono (by omega))
                    have A8 : Hid (Sx wr w.heap.size 57 y tm (.slice (some ⟨k, o, none⟩) bn bc) (.slice ga gn gc)) := (hbl.block w.heap.size (by omega)).trans A7.out
                    have HSZ : Hid (w.heap.size + 1 ≤ wr.heap.size) := by show _ ≤ _; have h1 := A8.out.lt; omega
                    clear hown hob hbx hbl
                    by_cases hkt : k2 < m1
                    · have hkl : k2 < L1.length := by rw [HM1.out]; exact hkt
                      obtain ⟨km, om, fa1, fc1, rfl, hkm, cm, _⟩ := (HMS.out.later HT.out).at hkl
                      obtain ⟨x1, hx1⟩ : ∃ x1, L1[k2].1 = x1 := ⟨_, rfl⟩
                      rw [hx1] at cm
                      have cm0 := cm.1
                      have HCM := hid cm0
                      have HKM := hid hkm
                      obtain ⟨va, vc, hvv, _⟩ := HO2.out.shape
                      subst hvv
                      obtain ⟨np, hnp⟩ : ∃ np, (gids (S.take i) ++ (L1.take k2).map (fun m => m.1)).length = np := ⟨_, rfl⟩
                      rw [hnp] at HO2 HOB ⊢
                      have HNP := hid hnp
                      have HPL : Hid (np ≤ 1048576) := by show _ ≤ _; rw [← hnp]; exact HPM.out (by first | rfl | trivial) k2 (by omega)
                      obtain ⟨qq, hqq⟩ : ∃ qq, inl x1 (gids (S.take i) ++ (L1.take k2).map (fun m => m.1)) = qq := ⟨_, rfl⟩
                      have HQQ := hid hqq
                      have HX1 := hid hx1
                      have hK : (0 : Int) ≤ (k2 : Int) ∧ (k2 : Int) < (m1 : Int) := by omega
                      clear cm hnp hqq hkm hx1
                      go_wp2_with fail
                      refine (l06In_any (w.heap.size + 1) wr.heap.size va np vc (gids (S.take i) ++ (L1.take k2).map (fun m => m.1)) x1 _ HNP.out HPL.out (by have h := HO2.out; rw [← HNP.out] at h; exact (OwI.is h).2)).mono ?_; rintro e w6 ⟨rfl, h6⟩
                      subst h6
                      rw [HQQ.out]
                      cases qq
                      · have hnd : ((gids (S.take i) ++ (L1.take k2).map (fun m => m.1)) ++ [x1]).Nodup := nodup_snoc HND2.out HQQ.out
                        have HND3 := hid hnd
                        clear hnd
                        go_wp2_with (at_builtin; refine wpList_append_ik w6 rfl (.tmp 98) (.tmp 105) rfl (w.heap.size + 1) _ (gids (S.take i) ++ (L1.take k2).map (fun m => m.1)) (by rfl) (by have h := HO2.out; exact h) x1 (by rfl) (by rw [HNP.out]; exact HPL.out) HSZ.out ?_; intro v7 w7 hrow7 hg7 hl7; have X7 := hid ((X2.out.later (bpush (bre _) _)).grown hg7 (fun e => HOB.out _ e.symm rfl)); have hl8 := hl7; have O8 := hid hrow7; have L8 : Hid (∀ j, v7.ownBlock = some j → j ≠ wq.heap.size) := (fun j hj e => by rcases hl7 j hj with h | h; exact HOB.out j h e; have := X2.out.lt; omega); have BL8 : Hid (Below (w.heap.size + 1) w5 w7) := HBL.out.trans (((Below.refl _ _).alloc HSZ.out _).grown hg7 (by have := HSZ.out; simp; omega) (fun k hk => (HO2.out.lt k hk).1)); clear hrow7 hg7 hl7 hl8)
                        go_roundw
                        case rel => exact ⟨k2 + 1, by omega, by go_num, by have h := O8.out; rw [List.append_assoc, ← HX1.out, map_take_snoc hkl] at h; exact h, by have h := HND3.out; rw [List.append_assoc, ← HX1.out, map_take_snoc hkl] at h; exact h, L8.out, X7.out, BL8.out⟩
                        case measure => simp [intOf]; omega
                      · have HE2 : Hid (sOk y tm S G = false) := by
                          show _ = _
                          rw [HX.out, gids_dup hil hkl (by rw [HQ.out]) (by rw [HX1.out]; exact HQQ.out), Bool.and_false]
                        go_wp2
                        go_ret
                        exact ⟨by rw [HE2.out]; rfl, HT.out⟩
                    · have HG : Hid (gids (S.take i) ++ (L1.take k2).map (fun m => m.1) = gids (S.take (i + 1))) := by
                        show _ = _
                        rw [gids_take hil, HQ.out, List.take_of_length_le (l := L1) (by rw [HM1.out]; omega)]
                      rw [HG.out] at HO2 HND2
                      go_wp2
                      go_roundw
                      case rel => exact ⟨i + 1, by omega, by go_num, HE, HND2, HO2.out, A8.out, HT.out⟩
                      case measure => simp [intOf]; omega
              · refine wpAnyH_take (i := 33) (oi := { dst := some 75, op := Op.pick (Operand.tmp 69) (Operand.const (Value.bool true)) (Operand.tmp 74), type := 4, pos := "l07_store.go:29", after := #[{ on := 27, ground := Ground.data }, { on := 32, ground := Ground.data }], guard := none }) (v := ?vb83_33) rfl (by kernel_rfl) (by kernel_rfl) (by kernel_rfl) (fun _ _ _ h => h) (Or.inl ⟨by rfl, ?hyb83_33⟩) (by assumption) ?restb83_33
                case hyb83_33 => (intro w hSw; (try dsimp only at hSw); go_simp; try with_reducible rfl)
                try simp only [Act.put, List.setIfInBounds_toArray, List.set_cons_zero, List.set_cons_succ]
                refine wpAnyH_take (i := 34) (oi := { dst := some 76, op := Op.move (Operand.tmp 75), type := 4, pos := "l07_store.go:29", after := #[{ on := 33, ground := Ground.data }, { on := 32, ground := Ground.chain }], guard := none }) (v := ?vb84_34) rfl (by kernel_rfl) (by kernel_rfl) (by kernel_rfl) (fun _ _ _ h => h) (Or.inl ⟨by rfl, ?hyb84_34⟩) (by assumption) ?restb84_34
                case hyb84_34 => (intro w hSw; (try dsimp only at hSw); go_simp; try with_reducible rfl)
                try simp only [Act.put, List.setIfInBounds_toArray, List.set_cons_zero, List.set_cons_succ]
                refine wpAnyH_take (i := 35) (oi := { dst := some 77, op := Op.load 77 (Operand.tmp 5), type := 77, pos := "l07_store.go:29", after := #[{ on := 34, ground := Ground.guard }], guard := some (34, false) }) (v := undef) rfl (by kernel_rfl) (by kernel_rfl) (by kernel_rfl) (fun _ _ _ h => h) (Or.inr ⟨by rfl, rfl⟩) (by assumption) ?_
                try simp only [Act.put, List.setIfInBounds_toArray, List.set_cons_zero, List.set_cons_succ]
                refine wpAnyH_take (i := 36) (oi := { dst := some 78, op := Op.fieldAddr 57 (Operand.tmp 1) 1, type := 0, pos := "l07_store.go:29", after := #[{ on := 34, ground := Ground.guard }], guard := some (34, false) }) (v := undef) rfl (by kernel_rfl) (by kernel_rfl) (by kernel_rfl) (fun _ _ _ h => h) (Or.inr ⟨by rfl, rfl⟩) (by assumption) ?_
                try simp only [Act.put, List.setIfInBounds_toArray, List.set_cons_zero, List.set_cons_succ]
                refine wpAnyH_take (i := 37) (oi := { dst := some 79, op := Op.load 3 (Operand.tmp 78), type := 3, pos := "l07_store.go:29", after := #[{ on := 36, ground := Ground.data }, { on := 34, ground := Ground.guard }], guard := some (34, false) }) (v := undef) rfl (by kernel_rfl) (by kernel_rfl) (by kernel_rfl) (fun _ _ _ h => h) (Or.inr ⟨by rfl, rfl⟩) (by assumption) ?_
                try simp only [Act.put, List.setIfInBounds_toArray, List.set_cons_zero, List.set_cons_succ]
                refine wpAnyH_take (i := 38) (oi := { dst := some 80, op := Op.call { callee := Callee.value (Operand.func 116), args := #[Operand.tmp 77, Operand.tmp 79], argTypes := #[77, 3] }, type := 4, pos := "l07_store.go:29", after := #[{ on := 35, ground := Ground.data }, { on := 37, ground := Ground.data }, { on := 34, ground := Ground.chain }, { on := 34, ground := Ground.guard }], guard := some (34, false) }) (v := undef) rfl (by kernel_rfl) (by kernel_rfl) (by kernel_rfl) (fun _ _ _ h => h) (Or.inr ⟨by rfl, rfl⟩) (by assumption) ?_
                try simp only [Act.put, List.setIfInBounds_toArray, List.set_cons_zero, List.set_cons_succ]
                refine wpAnyH_take (i := 39) (oi := { dst := some 81, op := Op.unOp UnOp.not 4 (Operand.tmp 80), type := 4, pos := "l07_store.go:29", after := #[{ on := 38, ground := Ground.data }, { on := 34, ground := Ground.guard }], guard := some (34, false) }) (v := undef) rfl (by kernel_rfl) (by kernel_rfl) (by kernel_rfl) (fun _ _ _ h => h) (Or.inr ⟨by rfl, rfl⟩) (by assumption) ?_
                try simp only [Act.put, List.setIfInBounds_toArray, List.set_cons_zero, List.set_cons_succ]
                refine wpAnyH_take (i := 40) (oi := { dst := some 82, op := Op.pick (Operand.tmp 76) (Operand.const (Value.bool true)) (Operand.tmp 81), type := 4, pos := "l07_store.go:29", after := #[{ on := 34, ground := Ground.data }, { on := 39, ground := Ground.data }], guard := none }) (v := ?vb90_40) rfl (by kernel_rfl) (by kernel_rfl) (by kernel_rfl) (fun _ _ _ h => h) (Or.inl ⟨by rfl, ?hyb90_40⟩) (by assumption) ?restb90_40
                case hyb90_40 => (intro w hSw; (try dsimp only at hSw); go_simp; try with_reducible rfl)
                try simp only [Act.put, List.setIfInBounds_toArray, List.set_cons_zero, List.set_cons_succ]
                refine wpAnyH_done (by kernel_rfl) ?_ _
                refine NoPanic.normal ?_
                have HE : Hid (sOk y tm S G = false) := by show _ = _; rw [HX.out, all_no (S := List.range S.length) (i := i) (by simpa using hil) (by rw [List.getElem_range, HST.out]; simp), Bool.false_and]
                clear hHeld
                go_wp2
                go_ret
                exact ⟨by rw [HE.out]; rfl, btr HB.out (btr B1.out (by repeat (first | exact bre _ | refine bdr ?_ | refine btr ?_ (by assumption))))⟩
            · have hzn2 : (zn != (i : Int)) = true := by simp [hzn]
              refine wpAnyH_take (i := 25) (oi := { dst := some 67, op := Op.binOp BinOp.neq 3 (Operand.tmp 65) (Operand.tmp 66) 3, type := 4, pos := "l07_store.go:29", after := #[{ on := 23, ground := Ground.data }, { on := 24, ground := Ground.data }, { on := 19, ground := Ground.guard }], guard := some (19, false) }) (v := ?vb91_25) rfl (by kernel_rfl) (by kernel_rfl) (by kernel_rfl) (fun _ _ _ h => h) (Or.inl ⟨by rfl, ?hyb91_25⟩) (by assumption) ?restb91_25
              case hyb91_25 => (intro w hSw; (try dsimp only at hSw); go_simp; try with_reducible rfl)
              try simp only [Act.put, List.setIfInBounds_toArray, List.set_cons_zero, List.set_cons_succ]
              refine wpAnyH_take (i := 26) (oi := { dst := some 68, op := Op.pick (Operand.tmp 61) (Operand.const (Value.bool true)) (Operand.tmp 67), type := 4, pos := "l07_store.go:29", after := #[{ on := 19, ground := Ground.data }, { on := 25, ground := Ground.data }], guard := none }) (v := ?vb92_26) rfl (by kernel_rfl) (by kernel_rfl) (by kernel_rfl) (fun _ _ _ h => h) (Or.inl ⟨by rfl, ?hyb92_26⟩) (by assumption) ?restb92_26
              case hyb92_26 => (intro w hSw; (try dsimp only at hSw); go_simp; try with_reducible rfl)
              try simp only [Act.put, List.setIfInBounds_toArray, List.set_cons_zero, List.set_cons_succ]
              refine wpAnyH_take (i := 27) (oi := { dst := some 69, op := Op.move (Operand.tmp 68), type := 4, pos := "l07_store.go:29", after := #[{ on := 26, ground := Ground.data }, { on := 23, ground := Ground.chain }], guard := none }) (v := ?vb93_27) rfl (by kernel_rfl) (by kernel_rfl) (by kernel_rfl) (fun _ _ _ h => h) (Or.inl ⟨by rfl, ?hyb93_27⟩) (by assumption) ?restb93_27
              case hyb93_27 => (intro w hSw; (try dsimp only at hSw); go_simp; try with_reducible rfl)
              try simp only [Act.put, List.setIfInBounds_toArray, List.set_cons_zero, List.set_cons_succ]
              refine wpAnyH_take (i := 28) (oi := { dst := some 70, op := Op.fieldAddr 57 (Operand.tmp 1) 3, type := 0, pos := "l07_store.go:29", after := #[{ on := 27, ground := Ground.guard }], guard := some (27, false) }) (v := undef) rfl (by kernel_rfl) (by kernel_rfl) (by kernel_rfl) (fun _ _ _ h => h) (Or.inr ⟨by rfl, rfl⟩) (by assumption) ?_
              try simp only [Act.put, List.setIfInBounds_toArray, List.set_cons_zero, List.set_cons_succ]
              refine wpAnyH_take (i := 29) (oi := { dst := some 71, op := Op.load 55 (Operand.tmp 70), type := 55, pos := "l07_store.go:29", after := #[{ on := 28, ground := Ground.data }, { on := 27, ground := Ground.guard }], guard := some (27, false) }) (v := undef) rfl (by kernel_rfl) (by kernel_rfl) (by kernel_rfl) (fun _ _ _ h => h) (Or.inr ⟨by rfl, rfl⟩) (by assumption) ?_
              try simp only [Act.put, List.setIfInBounds_toArray, List.set_cons_zero, List.set_cons_succ]
              refine wpAnyH_take (i := 30) (oi := { dst := some 72, op := Op.fieldAddr 77 (Operand.tmp 5) 0, type := 0, pos := "l07_store.go:29", after := #[{ on := 27, ground := Ground.guard }], guard := some (27, false) }) (v := undef) rfl (by kernel_rfl) (by kernel_rfl) (by kernel_rfl) (fun _ _ _ h => h) (Or.inr ⟨by rfl, rfl⟩) (by assumption) ?_
              try simp only [Act.put, List.setIfInBounds_toArray, List.set_cons_zero, List.set_cons_succ]
              refine wpAnyH_take (i := 31) (oi := { dst := some 73, op := Op.load 3 (Operand.tmp 72), type := 3, pos := "l07_store.go:29", after := #[{ on := 30, ground := Ground.data }, { on := 27, ground := Ground.guard }], guard := some (27, false) }) (v := undef) rfl (by kernel_rfl) (by kernel_rfl) (by kernel_rfl) (fun _ _ _ h => h) (Or.inr ⟨by rfl, rfl⟩) (by assumption) ?_
              try simp only [Act.put, List.setIfInBounds_toArray, List.set_cons_zero, List.set_cons_succ]
              refine wpAnyH_take (i := 32) (oi := { dst := some 74, op := Op.call { callee := Callee.value (Operand.func 113), args := #[Operand.tmp 71, Operand.tmp 73], argTypes := #[55, 3] }, type := 4, pos := "l07_store.go:29", after := #[{ on := 29, ground := Ground.data }, { on := 31, ground := Ground.data }, { on := 27, ground := Ground.chain }, { on := 27, ground := Ground.guard }], guard := some (27, false) }) (v := undef) rfl (by kernel_rfl) (by kernel_rfl) (by kernel_rfl) (fun _ _ _ h => h) (Or.inr ⟨by rfl, rfl⟩) (by assumption) ?_
              try simp only [Act.put, List.setIfInBounds_toArray, List.set_cons_zero, List.set_cons_succ]
              refine wpAnyH_take (i := 33) (oi := { dst := some 75, op := Op.pick (Operand.tmp 69) (Operand.const (Value.bool true)) (Operand.tmp 74), type := 4, pos := "l07_store.go:29", after := #[{ on := 27, ground := Ground.data }, { on := 32, ground := Ground.data }], guard := none }) (v := ?vb99_33) rfl (by kernel_rfl) (by kernel_rfl) (by kernel_rfl) (fun _ _ _ h => h) (Or.inl ⟨by rfl, ?hyb99_33⟩) (by assumption) ?restb99_33
              case hyb99_33 => (intro w hSw; (try dsimp only at hSw); go_simp; try with_reducible rfl)
              try simp only [Act.put, List.setIfInBounds_toArray, List.set_cons_zero, List.set_cons_succ]
              refine wpAnyH_take (i := 34) (oi := { dst := some 76, op := Op.move (Operand.tmp 75), type := 4, pos := "l07_store.go:29", after := #[{ on := 33, ground := Ground.data }, { on := 32, ground := Ground.chain }], guard := none }) (v := ?vb100_34) rfl (by kernel_rfl) (by kernel_rfl) (by kernel_rfl) (fun _ _ _ h => h) (Or.inl ⟨by rfl, ?hyb100_34⟩) (by assumption) ?restb100_34
              case hyb100_34 => (intro w hSw; (try dsimp only at hSw); go_simp; try with_reducible rfl)
              try simp only [Act.put, List.setIfInBounds_toArray, List.set_cons_zero, List.set_cons_succ]
              refine wpAnyH_take (i := 35) (oi := { dst := some 77, op := Op.load 77 (Operand.tmp 5), type := 77, pos := "l07_store.go:29", after := #[{ on := 34, ground := Ground.guard }], guard := some (34, false) }) (v := undef) rfl (by kernel_rfl) (by kernel_rfl) (by kernel_rfl) (fun _ _ _ h => h) (Or.inr ⟨by rfl, rfl⟩) (by assumption) ?_
              try simp only [Act.put, List.setIfInBounds_toArray, List.set_cons_zero, List.set_cons_succ]
              refine wpAnyH_take (i := 36) (oi := { dst := some 78, op := Op.fieldAddr 57 (Operand.tmp 1) 1, type := 0, pos := "l07_store.go:29", after := #[{ on := 34, ground := Ground.guard }], guard := some (34, false) }) (v := undef) rfl (by kernel_rfl) (by kernel_rfl) (by kernel_rfl) (fun _ _ _ h => h) (Or.inr ⟨by rfl, rfl⟩) (by assumption) ?_
              try simp only [Act.put, List.setIfInBounds_toArray, List.set_cons_zero, List.set_cons_succ]
              refine wpAnyH_take (i := 37) (oi := { dst := some 79, op := Op.load 3 (Operand.tmp 78), type := 3, pos := "l07_store.go:29", after := #[{ on := 36, ground := Ground.data }, { on := 34, ground := Ground.guard }], guard := some (34, false) }) (v := undef) rfl (by kernel_rfl) (by kernel_rfl) (by kernel_rfl) (fun _ _ _ h => h) (Or.inr ⟨by rfl, rfl⟩) (by assumption) ?_
              try simp only [Act.put, List.setIfInBounds_toArray, List.set_cons_zero, List.set_cons_succ]
              refine wpAnyH_take (i := 38) (oi := { dst := some 80, op := Op.call { callee := Callee.value (Operand.func 116), args := #[Operand.tmp 77, Operand.tmp 79], argTypes := #[77, 3] }, type := 4, pos := "l07_store.go:29", after := #[{ on := 35, ground := Ground.data }, { on := 37, ground := Ground.data }, { on := 34, ground := Ground.chain }, { on := 34, ground := Ground.guard }], guard := some (34, false) }) (v := undef) rfl (by kernel_rfl) (by kernel_rfl) (by kernel_rfl) (fun _ _ _ h => h) (Or.inr ⟨by rfl, rfl⟩) (by assumption) ?_
              try simp only [Act.put, List.setIfInBounds_toArray, List.set_cons_zero, List.set_cons_succ]
              refine wpAnyH_take (i := 39) (oi := { dst := some 81, op := Op.unOp UnOp.not 4 (Operand.tmp 80), type := 4, pos := "l07_store.go:29", after := #[{ on := 38, ground := Ground.data }, { on := 34, ground := Ground.guard }], guard := some (34, false) }) (v := undef) rfl (by kernel_rfl) (by kernel_rfl) (by kernel_rfl) (fun _ _ _ h => h) (Or.inr ⟨by rfl, rfl⟩) (by assumption) ?_
              try simp only [Act.put, List.setIfInBounds_toArray, List.set_cons_zero, List.set_cons_succ]
              refine wpAnyH_take (i := 40) (oi := { dst := some 82, op := Op.pick (Operand.tmp 76) (Operand.const (Value.bool true)) (Operand.tmp 81), type := 4, pos := "l07_store.go:29", after := #[{ on := 34, ground := Ground.data }, { on := 39, ground := Ground.data }], guard := none }) (v := ?vb106_40) rfl (by kernel_rfl) (by kernel_rfl) (by kernel_rfl) (fun _ _ _ h => h) (Or.inl ⟨by rfl, ?hyb106_40⟩) (by assumption) ?restb106_40
              case hyb106_40 => (intro w hSw; (try dsimp only at hSw); go_simp; try with_reducible rfl)
              try simp only [Act.put, List.setIfInBounds_toArray, List.set_cons_zero, List.set_cons_succ]
              refine wpAnyH_done (by kernel_rfl) ?_ _
              refine NoPanic.normal ?_
              have HE : Hid (sOk y tm S G = false) := by show _ = _; rw [HX.out, all_no (S := List.range S.length) (i := i) (by simpa using hil) (by rw [List.getElem_range, HST.out]; simp [hzn]), Bool.false_and]
              clear hHeld
              go_wp2
              go_ret
              exact ⟨by rw [HE.out]; rfl, btr HB.out (btr B1.out (by repeat (first | exact bre _ | refine bdr ?_ | refine btr ?_ (by assumption))))⟩

      · obtain ⟨j, hj⟩ : ∃ j : Nat, i = j + 1 := ⟨i - 1, by omega⟩
        have hjl : j < S.length := by omega
        obtain ⟨k', o', ma', mc', ga', gc', e', hk', dj, _⟩ := HR.out.at hjl
        simp only [Option.some.injEq, Addr.mk.injEq, and_true] at e'
        obtain ⟨rfl, rfl⟩ := e'
        obtain ⟨u0, hu0⟩ : ∃ u0, S[j].1 = u0 := ⟨_, rfl⟩
        have huy : pg S i = u0 := by rw [hj, pg_succ hjl, hu0]
        have dj0 := (dj.later hk' HB.out).1
        rw [hu0] at dj0
        rw [huy] at HST
        have hij : (i : Int) - 1 = (j : Int) := by omega
        have hwj : IntKind.i64.wrap (j : Int) = (j : Int) := by rw [IntKind.wrap_i64]; omega
        have hJ : (0 : Int) ≤ (j : Int) ∧ (j : Int) < (bn : Int) := by omega
        have hpos : (0 : Int) < (i : Int) := by omega
        have hposN : 0 < i := by omega
        have hkw : k < wq.heap.size := Nat.lt_of_lt_of_le hk' HB.out.size
        have HS : Hid (∀ W, Below W1.heap.size W1 W → (W.cell? ⟨w.heap.size, 0, none⟩ = some (.int .i64 y) ∧ W.cell? ⟨w.heap.size, 1, none⟩ = some (.int .i64 tm) ∧ W.cell? ⟨w.heap.size, 2, none⟩ = some (.slice (some ⟨k, o, none⟩) bn bc) ∧ W.cell? ⟨w.heap.size, 3, none⟩ = some (.slice ga gn gc)) ∧ (W.cell? ⟨wq.heap.size, 0, none⟩ = some (.int .i64 g1) ∧ W.cell? ⟨wq.heap.size, 1, none⟩ = some (.string nm1) ∧ W.cell? ⟨wq.heap.size, 2, none⟩ = some (.int .i64 t1) ∧ W.cell? ⟨wq.heap.size, 3, none⟩ = some (.int .i64 b1) ∧ W.cell? ⟨wq.heap.size, 4, none⟩ = some (.int .i64 nx1) ∧ W.cell? ⟨wq.heap.size, 5, none⟩ = some (.slice ma1 m1 mc1) ∧ W.cell? ⟨wq.heap.size, 6, none⟩ = some (.slice ga1 n1 gc1)) ∧ W.cell? ⟨k, o + j * 7, none⟩ = some (.int .i64 u0)) := fun W h => ⟨(A6.out.later (btr B1.out h)).cells, (A1.out.later h).cells, ((btr B1.out h).cell (p := ⟨k, _, none⟩) hkw).trans dj0⟩
        clear h0 hj hu0 huy c0 dj dj0 hk hk' hkw
        refine wp_region_noPanic ?_
        refine wp_region_held_drew (S := (fun W => (W.cell? ⟨w.heap.size, 0, none⟩ = some (.int .i64 y) ∧ W.cell? ⟨w.heap.size, 1, none⟩ = some (.int .i64 tm) ∧ W.cell? ⟨w.heap.size, 2, none⟩ = some (.slice (some ⟨k, o, none⟩) bn bc) ∧ W.cell? ⟨w.heap.size, 3, none⟩ = some (.slice ga gn gc)) ∧ (W.cell? ⟨wq.heap.size, 0, none⟩ = some (.int .i64 g1) ∧ W.cell? ⟨wq.heap.size, 1, none⟩ = some (.string nm1) ∧ W.cell? ⟨wq.heap.size, 2, none⟩ = some (.int .i64 t1) ∧ W.cell? ⟨wq.heap.size, 3, none⟩ = some (.int .i64 b1) ∧ W.cell? ⟨wq.heap.size, 4, none⟩ = some (.int .i64 nx1) ∧ W.cell? ⟨wq.heap.size, 5, none⟩ = some (.slice ma1 m1 mc1) ∧ W.cell? ⟨wq.heap.size, 6, none⟩ = some (.slice ga1 n1 gc1)) ∧ W.cell? ⟨k, o + j * 7, none⟩ = some (.int .i64 u0))) (by kernel_rfl) (HS.out _ (bdr (bre _))) (fun hHeld => ?_)
        refine wpAnyH_take (i := 0) (oi := { dst := some 42, op := Op.load 77 (Operand.tmp 5), type := 77, pos := "l07_store.go:29", after := #[], guard := none }) (v := ?vc1_0) rfl (by kernel_rfl) (by kernel_rfl) (by kernel_rfl) (fun _ _ _ h => h) (Or.inl ⟨by rfl, ?hyc1_0⟩) (by assumption) ?restc1_0
        case hyc1_0 => (intro w hSw; (try dsimp only at hSw); go_simp; try with_reducible rfl)
        try simp only [Act.put, List.setIfInBounds_toArray, List.set_cons_zero, List.set_cons_succ]
        clear hHeld
        refine wpAnyH_ready (rs := [1]) (by kernel_rfl) (by simp) ?_
        refine AllReadyH.cons (o := { dst := some 43, op := Op.call { callee := Callee.value (Operand.func 71), args := #[Operand.tmp 42], argTypes := #[77] }, type := 4, pos := "l07_store.go:29", after := #[{ on := 0, ground := Ground.data }], guard := none }) rfl (fun K hK => ?_) AllReadyH.nil
        go_simp
        refine (specBoxOk_any lo hi lo hi g1 nm1 t1 b1 nx1 ma1 m1 mc1 ga1 n1 gc1 L1 G1 _ HNM.out HM1.out HML.out HSL.out (HMS.out.later (btr HB.out (btr B1.out (by repeat (first | exact bre _ | refine bdr ?_ | refine btr ?_ (by assumption)))))) HN1.out HNL.out (HIS1.out.later (btr HB.out (btr B1.out (by repeat (first | exact bre _ | refine bdr ?_ | refine btr ?_ (by assumption))))))).mono ?_; rintro e w2 ⟨rfl, hb2⟩
        rw [HP.out]
        go_wp2_with fail
        refine hK.out _ _ (HS.out _ (by repeat (first | exact bre _ | refine bdr ?_ | refine btr ?_ (by assumption)))) (fun hHeld => ?_)
        clear hK K
        try simp only [Act.put, List.setIfInBounds_toArray, List.set_cons_zero, List.set_cons_succ]
        cases p
        · refine wpAnyH_take (i := 2) (oi := { dst := some 44, op := Op.unOp UnOp.not 4 (Operand.tmp 43), type := 4, pos := "l07_store.go:29", after := #[{ on := 1, ground := Ground.data }], guard := none }) (v := ?vc3_2) rfl (by kernel_rfl) (by kernel_rfl) (by kernel_rfl) (fun _ _ _ h => h) (Or.inl ⟨by rfl, ?hyc3_2⟩) (by assumption) ?restc3_2
          case hyc3_2 => (intro w hSw; (try dsimp only at hSw); go_simp; try with_reducible rfl)
          try simp only [Act.put, List.setIfInBounds_toArray, List.set_cons_zero, List.set_cons_succ]
          refine wpAnyH_take (i := 3) (oi := { dst := some 45, op := Op.move (Operand.tmp 44), type := 4, pos := "l07_store.go:29", after := #[{ on := 2, ground := Ground.data }, { on := 1, ground := Ground.chain }], guard := none }) (v := ?vc4_3) rfl (by kernel_rfl) (by kernel_rfl) (by kernel_rfl) (fun _ _ _ h => h) (Or.inl ⟨by rfl, ?hyc4_3⟩) (by assumption) ?restc4_3
          case hyc4_3 => (intro w hSw; (try dsimp only at hSw); go_simp; try with_reducible rfl)
          try simp only [Act.put, List.setIfInBounds_toArray, List.set_cons_zero, List.set_cons_succ]
          refine wpAnyH_take (i := 4) (oi := { dst := some 46, op := Op.move (Operand.tmp 4), type := 3, pos := "l07_store.go:29", after := #[{ on := 3, ground := Ground.guard }], guard := some (3, false) }) (v := undef) rfl (by kernel_rfl) (by kernel_rfl) (by kernel_rfl) (fun _ _ _ h => h) (Or.inr ⟨by rfl, rfl⟩) (by assumption) ?_
          try simp only [Act.put, List.setIfInBounds_toArray, List.set_cons_zero, List.set_cons_succ]
          refine wpAnyH_take (i := 5) (oi := { dst := some 47, op := Op.binOp BinOp.gtr 3 (Operand.tmp 46) (Operand.const (Value.int IntKind.i64 0)) 3, type := 4, pos := "l07_store.go:29", after := #[{ on := 4, ground := Ground.data }, { on := 3, ground := Ground.guard }], guard := some (3, false) }) (v := undef) rfl (by kernel_rfl) (by kernel_rfl) (by kernel_rfl) (fun _ _ _ h => h) (Or.inr ⟨by rfl, rfl⟩) (by assumption) ?_
          try simp only [Act.put, List.setIfInBounds_toArray, List.set_cons_zero, List.set_cons_succ]
          refine wpAnyH_take (i := 6) (oi := { dst := some 48, op := Op.move (Operand.tmp 47), type := 4, pos := "l07_store.go:29", after := #[{ on := 5, ground := Ground.data }, { on := 3, ground := Ground.chain }, { on := 3, ground := Ground.guard }], guard := some (3, false) }) (v := undef) rfl (by kernel_rfl) (by kernel_rfl) (by kernel_rfl) (fun _ _ _ h => h) (Or.inr ⟨by rfl, rfl⟩) (by assumption) ?_
          try simp only [Act.put, List.setIfInBounds_toArray, List.set_cons_zero, List.set_cons_succ]
          refine wpAnyH_take (i := 7) (oi := { dst := some 49, op := Op.fieldAddr 57 (Operand.tmp 1) 2, type := 0, pos := "l07_store.go:29", after := #[{ on := 6, ground := Ground.guard }], guard := some (6, true) }) (v := undef) rfl (by kernel_rfl) (by kernel_rfl) (by kernel_rfl) (fun _ _ _ h => h) (Or.inr ⟨by rfl, rfl⟩) (by assumption) ?_
          try simp only [Act.put, List.setIfInBounds_toArray, List.set_cons_zero, List.set_cons_succ]
          refine wpAnyH_take (i := 8) (oi := { dst := some 50, op := Op.load 54 (Operand.tmp 49), type := 54, pos := "l07_store.go:29", after := #[{ on := 7, ground := Ground.data }, { on := 6, ground := Ground.guard }], guard := some (6, true) }) (v := undef) rfl (by kernel_rfl) (by kernel_rfl) (by kernel_rfl) (fun _ _ _ h => h) (Or.inr ⟨by rfl, rfl⟩) (by assumption) ?_
          try simp only [Act.put, List.setIfInBounds_toArray, List.set_cons_zero, List.set_cons_succ]
          refine wpAnyH_take (i := 9) (oi := { dst := some 51, op := Op.move (Operand.tmp 4), type := 3, pos := "l07_store.go:29", after := #[{ on := 6, ground := Ground.guard }], guard := some (6, true) }) (v := undef) rfl (by kernel_rfl) (by kernel_rfl) (by kernel_rfl) (fun _ _ _ h => h) (Or.inr ⟨by rfl, rfl⟩) (by assumption) ?_
          try simp only [Act.put, List.setIfInBounds_toArray, List.set_cons_zero, List.set_cons_succ]
          refine wpAnyH_take (i := 10) (oi := { dst := some 52, op := Op.binOp BinOp.sub 3 (Operand.tmp 51) (Operand.const (Value.int IntKind.i64 1)) 3, type := 3, pos := "l07_store.go:29", after := #[{ on := 9, ground := Ground.data }, { on := 6, ground := Ground.guard }], guard := some (6, true) }) (v := undef) rfl (by kernel_rfl) (by kernel_rfl) (by kernel_rfl) (fun _ _ _ h => h) (Or.inr ⟨by rfl, rfl⟩) (by assumption) ?_
          try simp only [Act.put, List.setIfInBounds_toArray, List.set_cons_zero, List.set_cons_succ]
          refine wpAnyH_take (i := 11) (oi := { dst := some 53, op := Op.indexAddr 54 (Operand.tmp 50) (Operand.tmp 52), type := 0, pos := "l07_store.go:29", after := #[{ on := 8, ground := Ground.data }, { on := 10, ground := Ground.data }, { on := 6, ground := Ground.guard }], guard := some (6, true) }) (v := undef) rfl (by kernel_rfl) (by kernel_rfl) (by kernel_rfl) (fun _ _ _ h => h) (Or.inr ⟨by rfl, rfl⟩) (by assumption) ?_
          try simp only [Act.put, List.setIfInBounds_toArray, List.set_cons_zero, List.set_cons_succ]
          refine wpAnyH_take (i := 12) (oi := { dst := some 54, op := Op.fieldAddr 77 (Operand.tmp 53) 0, type := 0, pos := "l07_store.go:29", after := #[{ on := 11, ground := Ground.data }, { on := 6, ground := Ground.guard }], guard := some (6, true) }) (v := undef) rfl (by kernel_rfl) (by kernel_rfl) (by kernel_rfl) (fun _ _ _ h => h) (Or.inr ⟨by rfl, rfl⟩) (by assumption) ?_
          try simp only [Act.put, List.setIfInBounds_toArray, List.set_cons_zero, List.set_cons_succ]
          refine wpAnyH_take (i := 13) (oi := { dst := some 55, op := Op.load 3 (Operand.tmp 54), type := 3, pos := "l07_store.go:29", after := #[{ on := 12, ground := Ground.data }, { on := 6, ground := Ground.guard }], guard := some (6, true) }) (v := undef) rfl (by kernel_rfl) (by kernel_rfl) (by kernel_rfl) (fun _ _ _ h => h) (Or.inr ⟨by rfl, rfl⟩) (by assumption) ?_
          try simp only [Act.put, List.setIfInBounds_toArray, List.set_cons_zero, List.set_cons_succ]
          refine wpAnyH_take (i := 14) (oi := { dst := some 56, op := Op.fieldAddr 77 (Operand.tmp 5) 0, type := 0, pos := "l07_store.go:29", after := #[{ on := 6, ground := Ground.guard }], guard := some (6, true) }) (v := undef) rfl (by kernel_rfl) (by kernel_rfl) (by kernel_rfl) (fun _ _ _ h => h) (Or.inr ⟨by rfl, rfl⟩) (by assumption) ?_
          try simp only [Act.put, List.setIfInBounds_toArray, List.set_cons_zero, List.set_cons_succ]
          refine wpAnyH_take (i := 15) (oi := { dst := some 57, op := Op.load 3 (Operand.tmp 56), type := 3, pos := "l07_store.go:29", after := #[{ on := 14, ground := Ground.data }, { on := 6, ground := Ground.guard }], guard := some (6, true) }) (v := undef) rfl (by kernel_rfl) (by kernel_rfl) (by kernel_rfl) (fun _ _ _ h => h) (Or.inr ⟨by rfl, rfl⟩) (by assumption) ?_
          try simp only [Act.put, List.setIfInBounds_toArray, List.set_cons_zero, List.set_cons_succ]
          refine wpAnyH_take (i := 16) (oi := { dst := some 58, op := Op.binOp BinOp.geq 3 (Operand.tmp 55) (Operand.tmp 57) 3, type := 4, pos := "l07_store.go:29", after := #[{ on := 13, ground := Ground.data }, { on := 15, ground := Ground.data }, { on := 6, ground := Ground.guard }], guard := some (6, true) }) (v := undef) rfl (by kernel_rfl) (by kernel_rfl) (by kernel_rfl) (fun _ _ _ h => h) (Or.inr ⟨by rfl, rfl⟩) (by assumption) ?_
          try simp only [Act.put, List.setIfInBounds_toArray, List.set_cons_zero, List.set_cons_succ]
          refine wpAnyH_take (i := 17) (oi := { dst := some 59, op := Op.pick (Operand.tmp 48) (Operand.tmp 58) (Operand.const (Value.bool false)), type := 4, pos := "l07_store.go:29", after := #[{ on := 6, ground := Ground.data }, { on := 16, ground := Ground.data }, { on := 3, ground := Ground.guard }], guard := some (3, false) }) (v := undef) rfl (by kernel_rfl) (by kernel_rfl) (by kernel_rfl) (fun _ _ _ h => h) (Or.inr ⟨by rfl, rfl⟩) (by assumption) ?_
          try simp only [Act.put, List.setIfInBounds_toArray, List.set_cons_zero, List.set_cons_succ]
          refine wpAnyH_take (i := 18) (oi := { dst := some 60, op := Op.pick (Operand.tmp 45) (Operand.const (Value.bool true)) (Operand.tmp 59), type := 4, pos := "l07_store.go:29", after := #[{ on := 3, ground := Ground.data }, { on := 17, ground := Ground.data }], guard := none }) (v := ?vc19_18) rfl (by kernel_rfl) (by kernel_rfl) (by kernel_rfl) (fun _ _ _ h => h) (Or.inl ⟨by rfl, ?hyc19_18⟩) (by assumption) ?restc19_18
          case hyc19_18 => (intro w hSw; (try dsimp only at hSw); go_simp; try with_reducible rfl)
          try simp only [Act.put, List.setIfInBounds_toArray, List.set_cons_zero, List.set_cons_succ]
          refine wpAnyH_take (i := 19) (oi := { dst := some 61, op := Op.move (Operand.tmp 60), type := 4, pos := "l07_store.go:29", after := #[{ on := 18, ground := Ground.data }, { on := 6, ground := Ground.chain }], guard := none }) (v := ?vc20_19) rfl (by kernel_rfl) (by kernel_rfl) (by kernel_rfl) (fun _ _ _ h => h) (Or.inl ⟨by rfl, ?hyc20_19⟩) (by assumption) ?restc20_19
          case hyc20_19 => (intro w hSw; (try dsimp only at hSw); go_simp; try with_reducible rfl)
          try simp only [Act.put, List.setIfInBounds_toArray, List.set_cons_zero, List.set_cons_succ]
          refine wpAnyH_take (i := 20) (oi := { dst := some 62, op := Op.load 57 (Operand.tmp 1), type := 57, pos := "l07_store.go:29", after := #[{ on := 19, ground := Ground.guard }], guard := some (19, false) }) (v := undef) rfl (by kernel_rfl) (by kernel_rfl) (by kernel_rfl) (fun _ _ _ h => h) (Or.inr ⟨by rfl, rfl⟩) (by assumption) ?_
          try simp only [Act.put, List.setIfInBounds_toArray, List.set_cons_zero, List.set_cons_succ]
          refine wpAnyH_take (i := 21) (oi := { dst := some 63, op := Op.fieldAddr 77 (Operand.tmp 5) 1, type := 0, pos := "l07_store.go:29", after := #[{ on := 19, ground := Ground.guard }], guard := some (19, false) }) (v := undef) rfl (by kernel_rfl) (by kernel_rfl) (by kernel_rfl) (fun _ _ _ h => h) (Or.inr ⟨by rfl, rfl⟩) (by assumption) ?_
          try simp only [Act.put, List.setIfInBounds_toArray, List.set_cons_zero, List.set_cons_succ]
          refine wpAnyH_take (i := 22) (oi := { dst := some 64, op := Op.load 9 (Operand.tmp 63), type := 9, pos := "l07_store.go:29", after := #[{ on := 21, ground := Ground.data }, { on := 19, ground := Ground.guard }], guard := some (19, false) }) (v := undef) rfl (by kernel_rfl) (by kernel_rfl) (by kernel_rfl) (fun _ _ _ h => h) (Or.inr ⟨by rfl, rfl⟩) (by assumption) ?_
          try simp only [Act.put, List.setIfInBounds_toArray, List.set_cons_zero, List.set_cons_succ]
          refine wpAnyH_take (i := 24) (oi := { dst := some 66, op := Op.move (Operand.tmp 4), type := 3, pos := "l07_store.go:29", after := #[{ on := 19, ground := Ground.guard }], guard := some (19, false) }) (v := undef) rfl (by kernel_rfl) (by kernel_rfl) (by kernel_rfl) (fun _ _ _ h => h) (Or.inr ⟨by rfl, rfl⟩) (by assumption) ?_
          try simp only [Act.put, List.setIfInBounds_toArray, List.set_cons_zero, List.set_cons_succ]
          refine wpAnyH_take (i := 23) (oi := { dst := some 65, op := Op.call { callee := Callee.value (Operand.func 115), args := #[Operand.tmp 62, Operand.tmp 64], argTypes := #[57, 9] }, type := 3, pos := "l07_store.go:29", after := #[{ on := 20, ground := Ground.data }, { on := 22, ground := Ground.data }, { on := 19, ground := Ground.chain }, { on := 19, ground := Ground.guard }], guard := some (19, false) }) (v := undef) rfl (by kernel_rfl) (by kernel_rfl) (by kernel_rfl) (fun _ _ _ h => h) (Or.inr ⟨by rfl, rfl⟩) (by assumption) ?_
          try simp only [Act.put, List.setIfInBounds_toArray, List.set_cons_zero, List.set_cons_succ]
          refine wpAnyH_take (i := 25) (oi := { dst := some 67, op := Op.binOp BinOp.neq 3 (Operand.tmp 65) (Operand.tmp 66) 3, type := 4, pos := "l07_store.go:29", after := #[{ on := 23, ground := Ground.data }, { on := 24, ground := Ground.data }, { on := 19, ground := Ground.guard }], guard := some (19, false) }) (v := undef) rfl (by kernel_rfl) (by kernel_rfl) (by kernel_rfl) (fun _ _ _ h => h) (Or.inr ⟨by rfl, rfl⟩) (by assumption) ?_
          try simp only [Act.put, List.setIfInBounds_toArray, List.set_cons_zero, List.set_cons_succ]
          refine wpAnyH_take (i := 26) (oi := { dst := some 68, op := Op.pick (Operand.tmp 61) (Operand.const (Value.bool true)) (Operand.tmp 67), type := 4, pos := "l07_store.go:29", after := #[{ on := 19, ground := Ground.data }, { on := 25, ground := Ground.data }], guard := none }) (v := ?vc27_26) rfl (by kernel_rfl) (by kernel_rfl) (by kernel_rfl) (fun _ _ _ h => h) (Or.inl ⟨by rfl, ?hyc27_26⟩) (by assumption) ?restc27_26
          case hyc27_26 => (intro w hSw; (try dsimp only at hSw); go_simp; try with_reducible rfl)
          try simp only [Act.put, List.setIfInBounds_toArray, List.set_cons_zero, List.set_cons_succ]
          refine wpAnyH_take (i := 27) (oi := { dst := some 69, op := Op.move (Operand.tmp 68), type := 4, pos := "l07_store.go:29", after := #[{ on := 26, ground := Ground.data }, { on := 23, ground := Ground.chain }], guard := none }) (v := ?vc28_27) rfl (by kernel_rfl) (by kernel_rfl) (by kernel_rfl) (fun _ _ _ h => h) (Or.inl ⟨by rfl, ?hyc28_27⟩) (by assumption) ?restc28_27
          case hyc28_27 => (intro w hSw; (try dsimp only at hSw); go_simp; try with_reducible rfl)
          try simp only [Act.put, List.setIfInBounds_toArray, List.set_cons_zero, List.set_cons_succ]
          refine wpAnyH_take (i := 28) (oi := { dst := some 70, op := Op.fieldAddr 57 (Operand.tmp 1) 3, type := 0, pos := "l07_store.go:29", after := #[{ on := 27, ground := Ground.guard }], guard := some (27, false) }) (v := undef) rfl (by kernel_rfl) (by kernel_rfl) (by kernel_rfl) (fun _ _ _ h => h) (Or.inr ⟨by rfl, rfl⟩) (by assumption) ?_
          try simp only [Act.put, List.setIfInBounds_toArray, List.set_cons_zero, List.set_cons_succ]
          refine wpAnyH_take (i := 29) (oi := { dst := some 71, op := Op.load 55 (Operand.tmp 70), type := 55, pos := "l07_store.go:29", after := #[{ on := 28, ground := Ground.data }, { on := 27, ground := Ground.guard }], guard := some (27, false) }) (v := undef) rfl (by kernel_rfl) (by kernel_rfl) (by kernel_rfl) (fun _ _ _ h => h) (Or.inr ⟨by rfl, rfl⟩) (by assumption) ?_
          try simp only [Act.put, List.setIfInBounds_toArray, List.set_cons_zero, List.set_cons_succ]
          refine wpAnyH_take (i := 30) (oi := { dst := some 72, op := Op.fieldAddr 77 (Operand.tmp 5) 0, type := 0, pos := "l07_store.go:29", after := #[{ on := 27, ground := Ground.guard }], guard := some (27, false) }) (v := undef) rfl (by kernel_rfl) (by kernel_rfl) (by kernel_rfl) (fun _ _ _ h => h) (Or.inr ⟨by rfl, rfl⟩) (by assumption) ?_
          try simp only [Act.put, List.setIfInBounds_toArray, List.set_cons_zero, List.set_cons_succ]
          refine wpAnyH_take (i := 31) (oi := { dst := some 73, op := Op.load 3 (Operand.tmp 72), type := 3, pos := "l07_store.go:29", after := #[{ on := 30, ground := Ground.data }, { on := 27, ground := Ground.guard }], guard := some (27, false) }) (v := undef) rfl (by kernel_rfl) (by kernel_rfl) (by kernel_rfl) (fun _ _ _ h => h) (Or.inr ⟨by rfl, rfl⟩) (by assumption) ?_
          try simp only [Act.put, List.setIfInBounds_toArray, List.set_cons_zero, List.set_cons_succ]
          refine wpAnyH_take (i := 32) (oi := { dst := some 74, op := Op.call { callee := Callee.value (Operand.func 113), args := #[Operand.tmp 71, Operand.tmp 73], argTypes := #[55, 3] }, type := 4, pos := "l07_store.go:29", after := #[{ on := 29, ground := Ground.data }, { on := 31, ground := Ground.data }, { on := 27, ground := Ground.chain }, { on := 27, ground := Ground.guard }], guard := some (27, false) }) (v := undef) rfl (by kernel_rfl) (by kernel_rfl) (by kernel_rfl) (fun _ _ _ h => h) (Or.inr ⟨by rfl, rfl⟩) (by assumption) ?_
          try simp only [Act.put, List.setIfInBounds_toArray, List.set_cons_zero, List.set_cons_succ]
          refine wpAnyH_take (i := 33) (oi := { dst := some 75, op := Op.pick (Operand.tmp 69) (Operand.const (Value.bool true)) (Operand.tmp 74), type := 4, pos := "l07_store.go:29", after := #[{ on := 27, ground := Ground.data }, { on := 32, ground := Ground.data }], guard := none }) (v := ?vc34_33) rfl (by kernel_rfl) (by kernel_rfl) (by kernel_rfl) (fun _ _ _ h => h) (Or.inl ⟨by rfl, ?hyc34_33⟩) (by assumption) ?restc34_33
          case hyc34_33 => (intro w hSw; (try dsimp only at hSw); go_simp; try with_reducible rfl)
          try simp only [Act.put, List.setIfInBounds_toArray, List.set_cons_zero, List.set_cons_succ]
          refine wpAnyH_take (i := 34) (oi := { dst := some 76, op := Op.move (Operand.tmp 75), type := 4, pos := "l07_store.go:29", after := #[{ on := 33, ground := Ground.data }, { on := 32, ground := Ground.chain }], guard := none }) (v := ?vc35_34) rfl (by kernel_rfl) (by kernel_rfl) (by kernel_rfl) (fun _ _ _ h => h) (Or.inl ⟨by rfl, ?hyc35_34⟩) (by assumption) ?restc35_34
          case hyc35_34 => (intro w hSw; (try dsimp only at hSw); go_simp; try with_reducible rfl)
          try simp only [Act.put, List.setIfInBounds_toArray, List.set_cons_zero, List.set_cons_succ]
          refine wpAnyH_take (i := 35) (oi := { dst := some 77, op := Op.load 77 (Operand.tmp 5), type := 77, pos := "l07_store.go:29", after := #[{ on := 34, ground := Ground.guard }], guard := some (34, false) }) (v := undef) rfl (by kernel_rfl) (by kernel_rfl) (by kernel_rfl) (fun _ _ _ h => h) (Or.inr ⟨by rfl, rfl⟩) (by assumption) ?_
          try simp only [Act.put, List.setIfInBounds_toArray, List.set_cons_zero, List.set_cons_succ]
          refine wpAnyH_take (i := 36) (oi := { dst := some 78, op := Op.fieldAddr 57 (Operand.tmp 1) 1, type := 0, pos := "l07_store.go:29", after := #[{ on := 34, ground := Ground.guard }], guard := some (34, false) }) (v := undef) rfl (by kernel_rfl) (by kernel_rfl) (by kernel_rfl) (fun _ _ _ h => h) (Or.inr ⟨by rfl, rfl⟩) (by assumption) ?_
          try simp only [Act.put, List.setIfInBounds_toArray, List.set_cons_zero, List.set_cons_succ]
          refine wpAnyH_take (i := 37) (oi := { dst := some 79, op := Op.load 3 (Operand.tmp 78), type := 3, pos := "l07_store.go:29", after := #[{ on := 36, ground := Ground.data }, { on := 34, ground := Ground.guard }], guard := some (34, false) }) (v := undef) rfl (by kernel_rfl) (by kernel_rfl) (by kernel_rfl) (fun _ _ _ h => h) (Or.inr ⟨by rfl, rfl⟩) (by assumption) ?_
          try simp only [Act.put, List.setIfInBounds_toArray, List.set_cons_zero, List.set_cons_succ]
          refine wpAnyH_take (i := 38) (oi := { dst := some 80, op := Op.call { callee := Callee.value (Operand.func 116), args := #[Operand.tmp 77, Operand.tmp 79], argTypes := #[77, 3] }, type := 4, pos := "l07_store.go:29", after := #[{ on := 35, ground := Ground.data }, { on := 37, ground := Ground.data }, { on := 34, ground := Ground.chain }, { on := 34, ground := Ground.guard }], guard := some (34, false) }) (v := undef) rfl (by kernel_rfl) (by kernel_rfl) (by kernel_rfl) (fun _ _ _ h => h) (Or.inr ⟨by rfl, rfl⟩) (by assumption) ?_
          try simp only [Act.put, List.setIfInBounds_toArray, List.set_cons_zero, List.set_cons_succ]
          refine wpAnyH_take (i := 39) (oi := { dst := some 81, op := Op.unOp UnOp.not 4 (Operand.tmp 80), type := 4, pos := "l07_store.go:29", after := #[{ on := 38, ground := Ground.data }, { on := 34, ground := Ground.guard }], guard := some (34, false) }) (v := undef) rfl (by kernel_rfl) (by kernel_rfl) (by kernel_rfl) (fun _ _ _ h => h) (Or.inr ⟨by rfl, rfl⟩) (by assumption) ?_
          try simp only [Act.put, List.setIfInBounds_toArray, List.set_cons_zero, List.set_cons_succ]
          refine wpAnyH_take (i := 40) (oi := { dst := some 82, op := Op.pick (Operand.tmp 76) (Operand.const (Value.bool true)) (Operand.tmp 81), type := 4, pos := "l07_store.go:29", after := #[{ on := 34, ground := Ground.data }, { on := 39, ground := Ground.data }], guard := none }) (v := ?vc41_40) rfl (by kernel_rfl) (by kernel_rfl) (by kernel_rfl) (fun _ _ _ h => h) (Or.inl ⟨by rfl, ?hyc41_40⟩) (by assumption) ?restc41_40
          case hyc41_40 => (intro w hSw; (try dsimp only at hSw); go_simp; try with_reducible rfl)
          try simp only [Act.put, List.setIfInBounds_toArray, List.set_cons_zero, List.set_cons_succ]
          refine wpAnyH_done (by kernel_rfl) ?_ _
          refine NoPanic.normal ?_
          have HE : Hid (sOk y tm S G = false) := by show _ = _; rw [HX.out, all_no (S := List.range S.length) (i := i) (by simpa using hil) (by rw [List.getElem_range, HST.out]; rfl), Bool.false_and]
          clear hHeld
          go_wp2
          go_ret
          exact ⟨by rw [HE.out]; rfl, btr HB.out (btr B1.out (by repeat (first | exact bre _ | refine bdr ?_ | refine btr ?_ (by assumption))))⟩
        · refine wpAnyH_take (i := 2) (oi := { dst := some 44, op := Op.unOp UnOp.not 4 (Operand.tmp 43), type := 4, pos := "l07_store.go:29", after := #[{ on := 1, ground := Ground.data }], guard := none }) (v := ?vc42_2) rfl (by kernel_rfl) (by kernel_rfl) (by kernel_rfl) (fun _ _ _ h => h) (Or.inl ⟨by rfl, ?hyc42_2⟩) (by assumption) ?restc42_2
          case hyc42_2 => (intro w hSw; (try dsimp only at hSw); go_simp; try with_reducible rfl)
          try simp only [Act.put, List.setIfInBounds_toArray, List.set_cons_zero, List.set_cons_succ]
          refine wpAnyH_take (i := 3) (oi := { dst := some 45, op := Op.move (Operand.tmp 44), type := 4, pos := "l07_store.go:29", after := #[{ on := 2, ground := Ground.data }, { on := 1, ground := Ground.chain }], guard := none }) (v := ?vc43_3) rfl (by kernel_rfl) (by kernel_rfl) (by kernel_rfl) (fun _ _ _ h => h) (Or.inl ⟨by rfl, ?hyc43_3⟩) (by assumption) ?restc43_3
          case hyc43_3 => (intro w hSw; (try dsimp only at hSw); go_simp; try with_reducible rfl)
          try simp only [Act.put, List.setIfInBounds_toArray, List.set_cons_zero, List.set_cons_succ]
          refine wpAnyH_take (i := 4) (oi := { dst := some 46, op := Op.move (Operand.tmp 4), type := 3, pos := "l07_store.go:29", after := #[{ on := 3, ground := Ground.guard }], guard := some (3, false) }) (v := ?vc44_4) rfl (by kernel_rfl) (by kernel_rfl) (by kernel_rfl) (fun _ _ _ h => h) (Or.inl ⟨by rfl, ?hyc44_4⟩) (by assumption) ?restc44_4
          case hyc44_4 => (intro w hSw; (try dsimp only at hSw); go_simp; try with_reducible rfl)
          try simp only [Act.put, List.setIfInBounds_toArray, List.set_cons_zero, List.set_cons_succ]
          · refine wpAnyH_take (i := 5) (oi := { dst := some 47, op := Op.binOp BinOp.gtr 3 (Operand.tmp 46) (Operand.const (Value.int IntKind.i64 0)) 3, type := 4, pos := "l07_store.go:29", after := #[{ on := 4, ground := Ground.data }, { on := 3, ground := Ground.guard }], guard := some (3, false) }) (v := ?vc45_5) rfl (by kernel_rfl) (by kernel_rfl) (by kernel_rfl) (fun _ _ _ h => h) (Or.inl ⟨by rfl, ?hyc45_5⟩) (by assumption) ?restc45_5
            case hyc45_5 => (intro w hSw; (try dsimp only at hSw); go_simp; try with_reducible rfl)
            try simp only [Act.put, List.setIfInBounds_toArray, List.set_cons_zero, List.set_cons_succ]
            refine wpAnyH_take (i := 6) (oi := { dst := some 48, op := Op.move (Operand.tmp 47), type := 4, pos := "l07_store.go:29", after := #[{ on := 5, ground := Ground.data }, { on := 3, ground := Ground.chain }, { on := 3, ground := Ground.guard }], guard := some (3, false) }) (v := ?vc46_6) rfl (by kernel_rfl) (by kernel_rfl) (by kernel_rfl) (fun _ _ _ h => h) (Or.inl ⟨by rfl, ?hyc46_6⟩) (by assumption) ?restc46_6
            case hyc46_6 => (intro w hSw; (try dsimp only at hSw); go_simp; try with_reducible rfl)
            try simp only [Act.put, List.setIfInBounds_toArray, List.set_cons_zero, List.set_cons_succ]
            refine wpAnyH_take (i := 7) (oi := { dst := some 49, op := Op.fieldAddr 57 (Operand.tmp 1) 2, type := 0, pos := "l07_store.go:29", after := #[{ on := 6, ground := Ground.guard }], guard := some (6, true) }) (v := ?vc47_7) rfl (by kernel_rfl) (by kernel_rfl) (by kernel_rfl) (fun _ _ _ h => h) (Or.inl ⟨by rfl, ?hyc47_7⟩) (by assumption) ?restc47_7
            case hyc47_7 => (intro w hSw; (try dsimp only at hSw); go_simp; try with_reducible rfl)
            try simp only [Act.put, List.setIfInBounds_toArray, List.set_cons_zero, List.set_cons_succ]
            refine wpAnyH_take (i := 8) (oi := { dst := some 50, op := Op.load 54 (Operand.tmp 49), type := 54, pos := "l07_store.go:29", after := #[{ on := 7, ground := Ground.data }, { on := 6, ground := Ground.guard }], guard := some (6, true) }) (v := ?vc48_8) rfl (by kernel_rfl) (by kernel_rfl) (by kernel_rfl) (fun _ _ _ h => h) (Or.inl ⟨by rfl, ?hyc48_8⟩) (by assumption) ?restc48_8
            case hyc48_8 => (intro w hSw; (try dsimp only at hSw); go_simp; try with_reducible rfl)
            try simp only [Act.put, List.setIfInBounds_toArray, List.set_cons_zero, List.set_cons_succ]
            refine wpAnyH_take (i := 9) (oi := { dst := some 51, op := Op.move (Operand.tmp 4), type := 3, pos := "l07_store.go:29", after := #[{ on := 6, ground := Ground.guard }], guard := some (6, true) }) (v := ?vc49_9) rfl (by kernel_rfl) (by kernel_rfl) (by kernel_rfl) (fun _ _ _ h => h) (Or.inl ⟨by rfl, ?hyc49_9⟩) (by assumption) ?restc49_9
            case hyc49_9 => (intro w hSw; (try dsimp only at hSw); go_simp; try with_reducible rfl)
            try simp only [Act.put, List.setIfInBounds_toArray, List.set_cons_zero, List.set_cons_succ]
            refine wpAnyH_take (i := 10) (oi := { dst := some 52, op := Op.binOp BinOp.sub 3 (Operand.tmp 51) (Operand.const (Value.int IntKind.i64 1)) 3, type := 3, pos := "l07_store.go:29", after := #[{ on := 9, ground := Ground.data }, { on := 6, ground := Ground.guard }], guard := some (6, true) }) (v := ?vc50_10) rfl (by kernel_rfl) (by kernel_rfl) (by kernel_rfl) (fun _ _ _ h => h) (Or.inl ⟨by rfl, ?hyc50_10⟩) (by assumption) ?restc50_10
            case hyc50_10 => (intro w hSw; (try dsimp only at hSw); go_simp; try with_reducible rfl)
            try simp only [Act.put, List.setIfInBounds_toArray, List.set_cons_zero, List.set_cons_succ]
            refine wpAnyH_take (i := 11) (oi := { dst := some 53, op := Op.indexAddr 54 (Operand.tmp 50) (Operand.tmp 52), type := 0, pos := "l07_store.go:29", after := #[{ on := 8, ground := Ground.data }, { on := 10, ground := Ground.data }, { on := 6, ground := Ground.guard }], guard := some (6, true) }) (v := ?vc51_11) rfl (by kernel_rfl) (by kernel_rfl) (by kernel_rfl) (fun _ _ _ h => h) (Or.inl ⟨by rfl, ?hyc51_11⟩) (by assumption) ?restc51_11
            case hyc51_11 => (intro w hSw; (try dsimp only at hSw); go_simp; try with_reducible rfl)
            try simp only [Act.put, List.setIfInBounds_toArray, List.set_cons_zero, List.set_cons_succ]
            refine wpAnyH_take (i := 12) (oi := { dst := some 54, op := Op.fieldAddr 77 (Operand.tmp 53) 0, type := 0, pos := "l07_store.go:29", after := #[{ on := 11, ground := Ground.data }, { on := 6, ground := Ground.guard }], guard := some (6, true) }) (v := ?vc52_12) rfl (by kernel_rfl) (by kernel_rfl) (by kernel_rfl) (fun _ _ _ h => h) (Or.inl ⟨by rfl, ?hyc52_12⟩) (by assumption) ?restc52_12
            case hyc52_12 => (intro w hSw; (try dsimp only at hSw); go_simp; try with_reducible rfl)
            try simp only [Act.put, List.setIfInBounds_toArray, List.set_cons_zero, List.set_cons_succ]
            refine wpAnyH_take (i := 13) (oi := { dst := some 55, op := Op.load 3 (Operand.tmp 54), type := 3, pos := "l07_store.go:29", after := #[{ on := 12, ground := Ground.data }, { on := 6, ground := Ground.guard }], guard := some (6, true) }) (v := ?vc53_13) rfl (by kernel_rfl) (by kernel_rfl) (by kernel_rfl) (fun _ _ _ h => h) (Or.inl ⟨by rfl, ?hyc53_13⟩) (by assumption) ?restc53_13
            case hyc53_13 => (intro w hSw; (try dsimp only at hSw); go_simp; try with_reducible rfl)
            try simp only [Act.put, List.setIfInBounds_toArray, List.set_cons_zero, List.set_cons_succ]
            refine wpAnyH_take (i := 14) (oi := { dst := some 56, op := Op.fieldAddr 77 (Operand.tmp 5) 0, type := 0, pos := "l07_store.go:29", after := #[{ on := 6, ground := Ground.guard }], guard := some (6, true) }) (v := ?vc54_14) rfl (by kernel_rfl) (by kernel_rfl) (by kernel_rfl) (fun _ _ _ h => h) (Or.inl ⟨by rfl, ?hyc54_14⟩) (by assumption) ?restc54_14
            case hyc54_14 => (intro w hSw; (try dsimp only at hSw); go_simp; try with_reducible rfl)
            try simp only [Act.put, List.setIfInBounds_toArray, List.set_cons_zero, List.set_cons_succ]
            refine wpAnyH_take (i := 15) (oi := { dst := some 57, op := Op.load 3 (Operand.tmp 56), type := 3, pos := "l07_store.go:29", after := #[{ on := 14, ground := Ground.data }, { on := 6, ground := Ground.guard }], guard := some (6, true) }) (v := ?vc55_15) rfl (by kernel_rfl) (by kernel_rfl) (by kernel_rfl) (fun _ _ _ h => h) (Or.inl ⟨by rfl, ?hyc55_15⟩) (by assumption) ?restc55_15
            case hyc55_15 => (intro w hSw; (try dsimp only at hSw); go_simp; try with_reducible rfl)
            try simp only [Act.put, List.setIfInBounds_toArray, List.set_cons_zero, List.set_cons_succ]
            by_cases hle : u0 < g1
            · have hle2 : ¬ g1 ≤ u0 := by omega
              refine wpAnyH_take (i := 16) (oi := { dst := some 58, op := Op.binOp BinOp.geq 3 (Operand.tmp 55) (Operand.tmp 57) 3, type := 4, pos := "l07_store.go:29", after := #[{ on := 13, ground := Ground.data }, { on := 15, ground := Ground.data }, { on := 6, ground := Ground.guard }], guard := some (6, true) }) (v := ?vc56_16) rfl (by kernel_rfl) (by kernel_rfl) (by kernel_rfl) (fun _ _ _ h => h) (Or.inl ⟨by rfl, ?hyc56_16⟩) (by assumption) ?restc56_16
              case hyc56_16 => (intro w hSw; (try dsimp only at hSw); go_simp; try with_reducible rfl)
              try simp only [Act.put, List.setIfInBounds_toArray, List.set_cons_zero, List.set_cons_succ]
              refine wpAnyH_take (i := 17) (oi := { dst := some 59, op := Op.pick (Operand.tmp 48) (Operand.tmp 58) (Operand.const (Value.bool false)), type := 4, pos := "l07_store.go:29", after := #[{ on := 6, ground := Ground.data }, { on := 16, ground := Ground.data }, { on := 3, ground := Ground.guard }], guard := some (3, false) }) (v := ?vc57_17) rfl (by kernel_rfl) (by kernel_rfl) (by kernel_rfl) (fun _ _ _ h => h) (Or.inl ⟨by rfl, ?hyc57_17⟩) (by assumption) ?restc57_17
              case hyc57_17 => (intro w hSw; (try dsimp only at hSw); go_simp; try with_reducible rfl)
              try simp only [Act.put, List.setIfInBounds_toArray, List.set_cons_zero, List.set_cons_succ]
              refine wpAnyH_take (i := 18) (oi := { dst := some 60, op := Op.pick (Operand.tmp 45) (Operand.const (Value.bool true)) (Operand.tmp 59), type := 4, pos := "l07_store.go:29", after := #[{ on := 3, ground := Ground.data }, { on := 17, ground := Ground.data }], guard := none }) (v := ?vc58_18) rfl (by kernel_rfl) (by kernel_rfl) (by kernel_rfl) (fun _ _ _ h => h) (Or.inl ⟨by rfl, ?hyc58_18⟩) (by assumption) ?restc58_18
              case hyc58_18 => (intro w hSw; (try dsimp only at hSw); go_simp; try with_reducible rfl)
              try simp only [Act.put, List.setIfInBounds_toArray, List.set_cons_zero, List.set_cons_succ]
              refine wpAnyH_take (i := 19) (oi := { dst := some 61, op := Op.move (Operand.tmp 60), type := 4, pos := "l07_store.go:29", after := #[{ on := 18, ground := Ground.data }, { on := 6, ground := Ground.chain }], guard := none }) (v := ?vc59_19) rfl (by kernel_rfl) (by kernel_rfl) (by kernel_rfl) (fun _ _ _ h => h) (Or.inl ⟨by rfl, ?hyc59_19⟩) (by assumption) ?restc59_19
              case hyc59_19 => (intro w hSw; (try dsimp only at hSw); go_simp; try with_reducible rfl)
              try simp only [Act.put, List.setIfInBounds_toArray, List.set_cons_zero, List.set_cons_succ]
              refine wpAnyH_take (i := 20) (oi := { dst := some 62, op := Op.load 57 (Operand.tmp 1), type := 57, pos := "l07_store.go:29", after := #[{ on := 19, ground := Ground.guard }], guard := some (19, false) }) (v := ?vc60_20) rfl (by kernel_rfl) (by kernel_rfl) (by kernel_rfl) (fun _ _ _ h => h) (Or.inl ⟨by rfl, ?hyc60_20⟩) (by assumption) ?restc60_20
              case hyc60_20 => (intro w hSw; (try dsimp only at hSw); go_simp; try with_reducible rfl)
              try simp only [Act.put, List.setIfInBounds_toArray, List.set_cons_zero, List.set_cons_succ]
              refine wpAnyH_take (i := 21) (oi := { dst := some 63, op := Op.fieldAddr 77 (Operand.tmp 5) 1, type := 0, pos := "l07_store.go:29", after := #[{ on := 19, ground := Ground.guard }], guard := some (19, false) }) (v := ?vc61_21) rfl (by kernel_rfl) (by kernel_rfl) (by kernel_rfl) (fun _ _ _ h => h) (Or.inl ⟨by rfl, ?hyc61_21⟩) (by assumption) ?restc61_21
              case hyc61_21 => (intro w hSw; (try dsimp only at hSw); go_simp; try with_reducible rfl)
              try simp only [Act.put, List.setIfInBounds_toArray, List.set_cons_zero, List.set_cons_succ]
              refine wpAnyH_take (i := 22) (oi := { dst := some 64, op := Op.load 9 (Operand.tmp 63), type := 9, pos := "l07_store.go:29", after := #[{ on := 21, ground := Ground.data }, { on := 19, ground := Ground.guard }], guard := some (19, false) }) (v := ?vc62_22) rfl (by kernel_rfl) (by kernel_rfl) (by kernel_rfl) (fun _ _ _ h => h) (Or.inl ⟨by rfl, ?hyc62_22⟩) (by assumption) ?restc62_22
              case hyc62_22 => (intro w hSw; (try dsimp only at hSw); go_simp; try with_reducible rfl)
              try simp only [Act.put, List.setIfInBounds_toArray, List.set_cons_zero, List.set_cons_succ]
              refine wpAnyH_take (i := 24) (oi := { dst := some 66, op := Op.move (Operand.tmp 4), type := 3, pos := "l07_store.go:29", after := #[{ on := 19, ground := Ground.guard }], guard := some (19, false) }) (v := ?vc63_24) rfl (by kernel_rfl) (by kernel_rfl) (by kernel_rfl) (fun _ _ _ h => h) (Or.inl ⟨by rfl, ?hyc63_24⟩) (by assumption) ?restc63_24
              case hyc63_24 => (intro w hSw; (try dsimp only at hSw); go_simp; try with_reducible rfl)
              try simp only [Act.put, List.setIfInBounds_toArray, List.set_cons_zero, List.set_cons_succ]
              clear hHeld
              refine wpAnyH_ready (rs := [23]) (by kernel_rfl) (by simp) ?_
              refine AllReadyH.cons (o := { dst := some 65, op := Op.call { callee := Callee.value (Operand.func 115), args := #[Operand.tmp 62, Operand.tmp 64], argTypes := #[57, 9] }, type := 3, pos := "l07_store.go:29", after := #[{ on := 20, ground := Ground.data }, { on := 22, ground := Ground.data }, { on := 19, ground := Ground.chain }, { on := 19, ground := Ground.guard }], guard := some (19, false) }) rfl (fun K hK => ?_) AllReadyH.nil
              go_simp
              refine (specBoxNamed_any lo hi y tm (some ⟨k, o, none⟩) bn bc (.slice ga gn gc) S nm1 _ HL.out HN.out (HR.out.later (btr HB.out (btr B1.out (by repeat (first | exact bre _ | refine bdr ?_ | refine btr ?_ (by assumption))))))).mono ?_; rintro e w3 ⟨rfl, hb3⟩
              rw [HZN.out]
              go_wp2_with fail
              refine hK.out _ _ (HS.out _ (by repeat (first | exact bre _ | refine bdr ?_ | refine btr ?_ (by assumption)))) (fun hHeld => ?_)
              clear hK K
              try simp only [Act.put, List.setIfInBounds_toArray, List.set_cons_zero, List.set_cons_succ]
              by_cases hzn : zn = (i : Int)
              · have hzn2 : (zn != (i : Int)) = false := by simp [hzn]
                refine wpAnyH_take (i := 25) (oi := { dst := some 67, op := Op.binOp BinOp.neq 3 (Operand.tmp 65) (Operand.tmp 66) 3, type := 4, pos := "l07_store.go:29", after := #[{ on := 23, ground := Ground.data }, { on := 24, ground := Ground.data }, { on := 19, ground := Ground.guard }], guard := some (19, false) }) (v := ?vc65_25) rfl (by kernel_rfl) (by kernel_rfl) (by kernel_rfl) (fun _ _ _ h => h) (Or.inl ⟨by rfl, ?hyc65_25⟩) (by assumption) ?restc65_25
                case hyc65_25 => (intro w hSw; (try dsimp only at hSw); go_simp; try with_reducible rfl)
                try simp only [Act.put, List.setIfInBounds_toArray, List.set_cons_zero, List.set_cons_succ]
                refine wpAnyH_take (i := 26) (oi := { dst := some 68, op := Op.pick (Operand.tmp 61) (Operand.const (Value.bool true)) (Operand.tmp 67), type := 4, pos := "l07_store.go:29", after := #[{ on := 19, ground := Ground.data }, { on := 25, ground := Ground.data }], guard := none }) (v := ?vc66_26) rfl (by kernel_rfl) (by kernel_rfl) (by kernel_rfl) (fun _ _ _ h => h) (Or.inl ⟨by rfl, ?hyc66_26⟩) (by assumption) ?restc66_26
                case hyc66_26 => (intro w hSw; (try dsimp only at hSw); go_simp; try with_reducible rfl)
                try simp only [Act.put, List.setIfInBounds_toArray, List.set_cons_zero, List.set_cons_succ]
                refine wpAnyH_take (i := 27) (oi := { dst := some 69, op := Op.move (Operand.tmp 68), type := 4, pos := "l07_store.go:29", after := #[{ on := 26, ground := Ground.data }, { on := 23, ground := Ground.chain }], guard := none }) (v := ?vc67_27) rfl (by kernel_rfl) (by kernel_rfl) (by kernel_rfl) (fun _ _ _ h => h) (Or.inl ⟨by rfl, ?hyc67_27⟩) (by assumption) ?restc67_27
                case hyc67_27 => (intro w hSw; (try dsimp only at hSw); go_simp; try with_reducible rfl)
                try simp only [Act.put, List.setIfInBounds_toArray, List.set_cons_zero, List.set_cons_succ]
                refine wpAnyH_take (i := 28) (oi := { dst := some 70, op := Op.fieldAddr 57 (Operand.tmp 1) 3, type := 0, pos := "l07_store.go:29", after := #[{ on := 27, ground := Ground.guard }], guard := some (27, false) }) (v := ?vc68_28) rfl (by kernel_rfl) (by kernel_rfl) (by kernel_rfl) (fun _ _ _ h => h) (Or.inl ⟨by rfl, ?hyc68_28⟩) (by assumption) ?restc68_28
                case hyc68_28 => (intro w hSw; (try dsimp only at hSw); go_simp; try with_reducible rfl)
                try simp only [Act.put, List.setIfInBounds_toArray, List.set_cons_zero, List.set_cons_succ]
                refine wpAnyH_take (i := 29) (oi := { dst := some 71, op := Op.load 55 (Operand.tmp 70), type := 55, pos := "l07_store.go:29", after := #[{ on := 28, ground := Ground.data }, { on := 27, ground := Ground.guard }], guard := some (27, false) }) (v := ?vc69_29) rfl (by kernel_rfl) (by kernel_rfl) (by kernel_rfl) (fun _ _ _ h => h) (Or.inl ⟨by rfl, ?hyc69_29⟩) (by assumption) ?restc69_29
                case hyc69_29 => (intro w hSw; (try dsimp only at hSw); go_simp; try with_reducible rfl)
                try simp only [Act.put, List.setIfInBounds_toArray, List.set_cons_zero, List.set_cons_succ]
                refine wpAnyH_take (i := 30) (oi := { dst := some 72, op := Op.fieldAddr 77 (Operand.tmp 5) 0, type := 0, pos := "l07_store.go:29", after := #[{ on := 27, ground := Ground.guard }], guard := some (27, false) }) (v := ?vc70_30) rfl (by kernel_rfl) (by kernel_rfl) (by kernel_rfl) (fun _ _ _ h => h) (Or.inl ⟨by rfl, ?hyc70_30⟩) (by assumption) ?restc70_30
                case hyc70_30 => (intro w hSw; (try dsimp only at hSw); go_simp; try with_reducible rfl)
                try simp only [Act.put, List.setIfInBounds_toArray, List.set_cons_zero, List.set_cons_succ]
                refine wpAnyH_take (i := 31) (oi := { dst := some 73, op := Op.load 3 (Operand.tmp 72), type := 3, pos := "l07_store.go:29", after := #[{ on := 30, ground := Ground.data }, { on := 27, ground := Ground.guard }], guard := some (27, false) }) (v := ?vc71_31) rfl (by kernel_rfl) (by kernel_rfl) (by kernel_rfl) (fun _ _ _ h => h) (Or.inl ⟨by rfl, ?hyc71_31⟩) (by assumption) ?restc71_31
                case hyc71_31 => (intro w hSw; (try dsimp only at hSw); go_simp; try with_reducible rfl)
                try simp only [Act.put, List.setIfInBounds_toArray, List.set_cons_zero, List.set_cons_succ]
                clear hHeld
                refine wpAnyH_ready (rs := [32]) (by kernel_rfl) (by simp) ?_
                refine AllReadyH.cons (o := { dst := some 74, op := Op.call { callee := Callee.value (Operand.func 113), args := #[Operand.tmp 71, Operand.tmp 73], argTypes := #[55, 3] }, type := 4, pos := "l07_store.go:29", after := #[{ on := 29, ground := Ground.data }, { on := 31, ground := Ground.data }, { on := 27, ground := Ground.chain }, { on := 27, ground := Ground.guard }], guard := some (27, false) }) rfl (fun K hK => ?_) AllReadyH.nil
                go_simp
                refine (l06In_any lo' hi' ga gn gc G g1 _ HGL.out HGN.out (HIS.out.later (btr HB.out (btr B1.out (by repeat (first | exact bre _ | refine bdr ?_ | refine btr ?_ (by assumption))))))).mono ?_; rintro e w4 ⟨rfl, h4⟩
                subst h4
                rw [HSI.out]
                go_wp2_with fail
                refine hK.out _ _ (HS.out _ (by repeat (first | exact bre _ | refine bdr ?_ | refine btr ?_ (by assumption)))) (fun hHeld => ?_)
                clear hK K
                try simp only [Act.put, List.setIfInBounds_toArray, List.set_cons_zero, List.set_cons_succ]
                cases si
                · refine wpAnyH_take (i := 33) (oi := { dst := some 75, op := Op.pick (Operand.tmp 69) (Operand.const (Value.bool true)) (Operand.tmp 74), type := 4, pos := "l07_store.go:29", after := #[{ on := 27, ground := Ground.data }, { on := 32, ground := Ground.data }], guard := none }) (v := ?vc73_33) rfl (by kernel_rfl) (by kernel_rfl) (by kernel_rfl) (fun _ _ _ h => h) (Or.inl ⟨by rfl, ?hyc73_33⟩) (by assumption) ?restc73_33
                  case hyc73_33 => (intro w hSw; (try dsimp only at hSw); go_simp; try with_reducible rfl)
                  try simp only [Act.put, List.setIfInBounds_toArray, List.set_cons_zero, List.set_cons_succ]
                  refine wpAnyH_take (i := 34) (oi := { dst := some 76, op := Op.move (Operand.tmp 75), type := 4, pos := "l07_store.go:29", after := #[{ on := 33, ground := Ground.data }, { on := 32, ground := Ground.chain }], guard := none }) (v := ?vc74_34) rfl (by kernel_rfl) (by kernel_rfl) (by kernel_rfl) (fun _ _ _ h => h) (Or.inl ⟨by rfl, ?hyc74_34⟩) (by assumption) ?restc74_34
                  case hyc74_34 => (intro w hSw; (try dsimp only at hSw); go_simp; try with_reducible rfl)
                  try simp only [Act.put, List.setIfInBounds_toArray, List.set_cons_zero, List.set_cons_succ]
                  refine wpAnyH_take (i := 35) (oi := { dst := some 77, op := Op.load 77 (Operand.tmp 5), type := 77, pos := "l07_store.go:29", after := #[{ on := 34, ground := Ground.guard }], guard := some (34, false) }) (v := ?vc75_35) rfl (by kernel_rfl) (by kernel_rfl) (by kernel_rfl) (fun _ _ _ h => h) (Or.inl ⟨by rfl, ?hyc75_35⟩) (by assumption) ?restc75_35
                  case hyc75_35 => (intro w hSw; (try dsimp only at hSw); go_simp; try with_reducible rfl)
                  try simp only [Act.put, List.setIfInBounds_toArray, List.set_cons_zero, List.set_cons_succ]
                  refine wpAnyH_take (i := 36) (oi := { dst := some 78, op := Op.fieldAddr 57 (Operand.tmp 1) 1, type := 0, pos := "l07_store.go:29", after := #[{ on := 34, ground := Ground.guard }], guard := some (34, false) }) (v := ?vc76_36) rfl (by kernel_rfl) (by kernel_rfl) (by kernel_rfl) (fun _ _ _ h => h) (Or.inl ⟨by rfl, ?hyc76_36⟩) (by assumption) ?restc76_36
                  case hyc76_36 => (intro w hSw; (try dsimp only at hSw); go_simp; try with_reducible rfl)
                  try simp only [Act.put, List.setIfInBounds_toArray, List.set_cons_zero, List.set_cons_succ]
                  refine wpAnyH_take (i := 37) (oi := { dst := some 79, op := Op.load 3 (Operand.tmp 78), type := 3, pos := "l07_store.go:29", after := #[{ on := 36, ground := Ground.data }, { on := 34, ground := Ground.guard }], guard := some (34, false) }) (v := ?vc77_37) rfl (by kernel_rfl) (by kernel_rfl) (by kernel_rfl) (fun _ _ _ h => h) (Or.inl ⟨by rfl, ?hyc77_37⟩) (by assumption) ?restc77_37
                  case hyc77_37 => (intro w hSw; (try dsimp only at hSw); go_simp; try with_reducible rfl)
                  try simp only [Act.put, List.setIfInBounds_toArray, List.set_cons_zero, List.set_cons_succ]
                  clear hHeld
                  refine wpAnyH_ready (rs := [38]) (by kernel_rfl) (by simp) ?_
                  refine AllReadyH.cons (o := { dst := some 80, op := Op.call { callee := Callee.value (Operand.func 116), args := #[Operand.tmp 77, Operand.tmp 79], argTypes := #[77, 3] }, type := 4, pos := "l07_store.go:29", after := #[{ on := 35, ground := Ground.data }, { on := 37, ground := Ground.data }, { on := 34, ground := Ground.chain }, { on := 34, ground := Ground.guard }], guard := some (34, false) }) rfl (fun K hK => ?_) AllReadyH.nil
                  go_simp
                  refine (l07Times_any lo hi g1 nm1 t1 b1 nx1 ma1 m1 mc1 (.slice ga1 n1 gc1) L1 tm _ HM1.out HML.out HSL.out (HMS.out.later (btr HB.out (btr B1.out (by repeat (first | exact bre _ | refine bdr ?_ | refine btr ?_ (by assumption))))))).mono ?_; rintro e w5 ⟨rfl, hb5⟩
                  rw [HTM.out]
                  go_wp2_with fail
                  refine hK.out _ _ (HS.out _ (by repeat (first | exact bre _ | refine bdr ?_ | refine btr ?_ (by assumption)))) (fun hHeld => ?_)
                  clear hK K
                  try simp only [Act.put, List.setIfInBounds_toArray, List.set_cons_zero, List.set_cons_succ]
                  cases tk
                  · refine wpAnyH_take (i := 39) (oi := { dst := some 81, op := Op.unOp UnOp.not 4 (Operand.tmp 80), type := 4, pos := "l07_store.go:29", after := #[{ on := 38, ground := Ground.data }, { on := 34, ground := Ground.guard }], guard := some (34, false) }) (v := ?vc79_39) rfl (by kernel_rfl) (by kernel_rfl) (by kernel_rfl) (fun _ _ _ h => h) (Or.inl ⟨by rfl, ?hyc79_39⟩) (by assumption) ?restc79_39
                    case hyc79_39 => (intro w hSw; (try dsimp only at hSw); go_simp; try with_reducible rfl)
                    try simp only [Act.put, List.setIfInBounds_toArray, List.set_cons_zero, List.set_cons_succ]
                    refine wpAnyH_take (i := 40) (oi := { dst := some 82, op := Op.pick (Operand.tmp 76) (Operand.const (Value.bool true)) (Operand.tmp 81), type := 4, pos := "l07_store.go:29", after := #[{ on := 34, ground := Ground.data }, { on := 39, ground := Ground.data }], guard := none }) (v := ?vc80_40) rfl (by kernel_rfl) (by kernel_rfl) (by kernel_rfl) (fun _ _ _ h => h) (Or.inl ⟨by rfl, ?hyc80_40⟩) (by assumption) ?restc80_40
                    case hyc80_40 => (intro w hSw; (try dsimp only at hSw); go_simp; try with_reducible rfl)
                    try simp only [Act.put, List.setIfInBounds_toArray, List.set_cons_zero, List.set_cons_succ]
                    refine wpAnyH_done (by kernel_rfl) ?_ _
                    refine NoPanic.normal ?_
                    have HE : Hid (sOk y tm S G = false) := by show _ = _; rw [HX.out, all_no (S := List.range S.length) (i := i) (by simpa using hil) (by rw [List.getElem_range, HST.out]; simp), Bool.false_and]
                    clear hHeld
                    go_wp2
                    go_ret
                    exact ⟨by rw [HE.out]; rfl, btr HB.out (btr B1.out (by repeat (first | exact bre _ | refine bdr ?_ | refine btr ?_ (by assumption))))⟩
                  · refine wpAnyH_take (i := 39) (oi := { dst := some 81, op := Op.unOp UnOp.not 4 (Operand.tmp 80), type := 4, pos := "l07_store.go:29", after := #[{ on := 38, ground := Ground.data }, { on := 34, ground := Ground.guard }], guard := some (34, false) }) (v := ?vc81_39) rfl (by kernel_rfl) (by kernel_rfl) (by kernel_rfl) (fun _ _ _ h => h) (Or.inl ⟨by rfl, ?hyc81_39⟩) (by assumption) ?restc81_39
                    case hyc81_39 => (intro w hSw; (try dsimp only at hSw); go_simp; try with_reducible rfl)
                    try simp only [Act.put, List.setIfInBounds_toArray, List.set_cons_zero, List.set_cons_succ]
                    refine wpAnyH_take (i := 40) (oi := { dst := some 82, op := Op.pick (Operand.tmp 76) (Operand.const (Value.bool true)) (Operand.tmp 81), type := 4, pos := "l07_store.go:29", after := #[{ on := 34, ground := Ground.data }, { on := 39, ground := Ground.data }], guard := none }) (v := ?vc82_40) rfl (by kernel_rfl) (by kernel_rfl) (by kernel_rfl) (fun _ _ _ h => h) (Or.inl ⟨by rfl, ?hyc82_40⟩) (by assumption) ?restc82_40
                    case hyc82_40 => (intro w hSw; (try dsimp only at hSw); go_simp; try with_reducible rfl)
                    try simp only [Act.put, List.setIfInBounds_toArray, List.set_cons_zero, List.set_cons_succ]
                    refine wpAnyH_done (by kernel_rfl) ?_ _
                    refine NoPanic.normal ?_
                    have HE : Hid (∀ j, j < i + 1 → j < S.length → stp7 tm G S j = true) := by
                      intro j hj h
                      by_cases hji : j < i
                      · exact HA.out j hji h
                      · obtain rfl : j = i := by omega
                        rw [HST.out]; simp [hle, hzn]
                    have AB : Hid (Bx w5 wq.heap.size 77 g1 nm1 t1 b1 nx1 (.slice ma1 m1 mc1) (.slice ga1 n1 gc1)) := A1.out.later (by repeat (first | exact bre _ | refine bdr ?_ | refine btr ?_ (by assumption)))
                    have HBV : Hid (Below wq.heap.size wq w5) := by show Below _ _ _; refine btr B1.out ?_; repeat (first | exact bre _ | refine bdr ?_ | refine btr ?_ (by assumption))
                    have A7 := hid (A6.out.later HBV.out)
                    have O7 := hid (own_later HOW.out HBV.out)
                    have B7 := hid (btr HB.out HBV.out)
                    have HOL : Hid (∀ j, Value.ownBlock vv = some j → j ≠ wq.heap.size) := fun j hj e => by have := (HOW.out.lt j hj).2; omega
                    clear hHeld
                    go_wp2
                    go_loopw [3, 6] (fun vv2 kv wr => ∃ k2 : Nat, k2 ≤ m1 ∧ kv = .int .i64 (k2 : Int) ∧ OwI wr (w.heap.size + 1) vv2 (gids (S.take i) ++ (L1.take k2).map (fun m => m.1)) ∧ Hid ((gids (S.take i) ++ (L1.take k2).map (fun m => m.1)).Nodup) ∧ (∀ j, vv2.ownBlock = some j → j ≠ wq.heap.size) ∧ Bx wr wq.heap.size 77 g1 nm1 t1 b1 nx1 (.slice ma1 m1 mc1) (.slice ga1 n1 gc1) ∧ Below (w.heap.size + 1) w5 wr) (fun _ kv _ => m1 - (intOf kv).toNat)
                    case atStart => exact ⟨0, Nat.zero_le _, rfl, by simpa using O7.out, by show List.Nodup _; simpa using HND.out, HOL.out, AB.out, Below.refl _ _⟩
                    case round =>
                      obtain ⟨k2, hk2, rfl, hown, HND2, hob, hbx, hbl⟩ := hrel
                      have HO2 := hid hown
                      have HOB := hid hob
                      have X2 := hid hbx
                      have HBL := hid hbl
                      have c1 := hbx.cells
                      have hml := HML.out
                      have HT : Hid (Below w.heap.size w wr) := B7.out.trans (hbl.mono (by omega))
                      have A8 : Hid (Sx wr w.heap.size 57 y tm (.slice (some ⟨k, o, none⟩) bn bc) (.slice ga gn gc)) := (hbl.block w.heap.size (by omega)).trans A7.out
                      have HSZ : Hid (w.heap.size + 1 ≤ wr.heap.size) := by show _ ≤ _; have h1 := A8.out.lt; omega
                      clear hown hob hbx hbl
                      by_cases hkt : k2 < m1
                      · have hkl : k2 < L1.length := by rw [HM1.out]; exact hkt
                        obtain ⟨km, om, fa1, fc1, rfl, hkm, cm, _⟩ := (HMS.out.later HT.out).at hkl
                        obtain ⟨x1, hx1⟩ : ∃ x1, L1[k2].1 = x1 := ⟨_, rfl⟩
                        rw [hx1] at cm
                        have cm0 := cm.1
                        have HCM := hid cm0
                        have HKM := hid hkm
                        obtain ⟨va, vc, hvv, _⟩ := HO2.out.shape
                        subst hvv
                        obtain ⟨np, hnp⟩ : ∃ np, (gids (S.take i) ++ (L1.take k2).map (fun m => m.1)).length = np := ⟨_, rfl⟩
                        rw [hnp] at HO2 HOB ⊢
                        have HNP := hid hnp
                        have HPL : Hid (np ≤ 1048576) := by show _ ≤ _; rw [← hnp]; exact HPM.out (by first | rfl | trivial) k2 (by omega)
                        obtain ⟨qq, hqq⟩ : ∃ qq, inl x1 (gids (S.take i) ++ (L1.take k2).map (fun m => m.1)) = qq := ⟨_, rfl⟩
                        have HQQ := hid hqq
                        have HX1 := hid hx1
                        have hK : (0 : Int) ≤ (k2 : Int) ∧ (k2 : Int) < (m1 : Int) := by omega
                        clear cm hnp hqq hkm hx1
                        go_wp2_with fail
                        refine (l06In_any (w.heap.size + 1) wr.heap.size va np vc (gids (S.take i) ++ (L1.take k2).map (fun m => m.1)) x1 _ HNP.out HPL.out (by have h := HO2.out; rw [← HNP.out] at h; exact (OwI.is h).2)).mono ?_; rintro e w6 ⟨rfl, h6⟩
                        subst h6
                        rw [HQQ.out]
                        cases qq
                        · have hnd : ((gids (S.take i) ++ (L1.take k2).map (fun m => m.1)) ++ [x1]).Nodup := nodup_snoc HND2.out HQQ.out
                          have HND3 := hid hnd
                          clear hnd
                          go_wp2_with (at_builtin; refine wpList_append_ik w6 rfl (.tmp 98) (.tmp 105) rfl (w.heap.size + 1) _ (gids (S.take i) ++ (L1.take k2).map (fun m => m.1)) (by rfl) (by have h := HO2.out; exact h) x1 (by rfl) (by rw [HNP.out]; exact HPL.out) HSZ.out ?_; intro v7 w7 hrow7 hg7 hl7; have X7 := hid ((X2.out.later (bpush (bre _) _)).grown hg7 (fun e => HOB.out _ e.symm rfl)); have hl8 := hl7; have O8 := hid hrow7; have L8 : Hid (∀ j, v7.ownBlock = some j → j ≠ wq.heap.size) := (fun j hj e => by rcases hl7 j hj with h | h; exact HOB.out j h e; have := X2.out.lt; omega); have BL8 : Hid (Below (w.heap.size + 1) w5 w7) := HBL.out.trans (((Below.refl _ _).alloc HSZ.out _).grown hg7 (by have := HSZ.out; simp; omega) (fun k hk => (HO2.out.lt k hk).1)); clear hrow7 hg7 hl7 hl8)
                          go_roundw
                          case rel => exact ⟨k2 + 1, by omega, by go_num, by have h := O8.out; rw [List.append_assoc, ← HX1.out, map_take_snoc hkl] at h; exact h, by have h := HND3.out; rw [List.append_assoc, ← HX1.out, map_take_snoc hkl] at h; exact h, L8.out, X7.out, BL8.out⟩
                          case measure => simp [intOf]; omega
                        · have HE2 : Hid (sOk y tm S G = false) := by
                            show _ = _
                            rw [HX.out, gids_dup hil hkl (by rw [HQ.out]) (by rw [HX1.out]; exact HQQ.out), Bool.and_false]
                          go_wp2
                          go_ret
                          exact ⟨by rw [HE2.out]; rfl, HT.out⟩
                      · have HG : Hid (gids (S.take i) ++ (L1.take k2).map (fun m => m.1) = gids (S.take (i + 1))) := by
                          show _ = _
                          rw [gids_take hil, HQ.out, List.take_of_length_le (l := L1) (by rw [HM1.out]; omega)]
                        rw [HG.out] at HO2 HND2
                        go_wp2
                        go_roundw
                        case rel => exact ⟨i + 1, by omega, by go_num, HE, HND2, HO2.out, A8.out, HT.out⟩
                        case measure => simp [intOf]; omega
                · refine wpAnyH_take (i := 33) (oi := { dst := some 75, op := Op.pick (Operand.tmp 69) (Operand.const (Value.bool true)) (Operand.tmp 74), type := 4, pos := "l07_store.go:29", after := #[{ on := 27, ground := Ground.data }, { on := 32, ground := Ground.data }], guard := none }) (v := ?vc83_33) rfl (by kernel_rfl) (by kernel_rfl) (by kernel_rfl) (fun _ _ _ h => h) (Or.inl ⟨by rfl, ?hyc83_33⟩) (by assumption) ?restc83_33
                  case hyc83_33 => (intro w hSw; (try dsimp only at hSw); go_simp; try with_reducible rfl)
                  try simp only [Act.put, List.setIfInBounds_toArray, List.set_cons_zero, List.set_cons_succ]
                  refine wpAnyH_take (i := 34) (oi := { dst := some 76, op := Op.move (Operand.tmp 75), type := 4, pos := "l07_store.go:29", after := #[{ on := 33, ground := Ground.data }, { on := 32, ground := Ground.chain }], guard := none }) (v := ?vc84_34) rfl (by kernel_rfl) (by kernel_rfl) (by kernel_rfl) (fun _ _ _ h => h) (Or.inl ⟨by rfl, ?hyc84_34⟩) (by assumption) ?restc84_34
                  case hyc84_34 => (intro w hSw; (try dsimp only at hSw); go_simp; try with_reducible rfl)
                  try simp only [Act.put, List.setIfInBounds_toArray, List.set_cons_zero, List.set_cons_succ]
                  refine wpAnyH_take (i := 35) (oi := { dst := some 77, op := Op.load 77 (Operand.tmp 5), type := 77, pos := "l07_store.go:29", after := #[{ on := 34, ground := Ground.guard }], guard := some (34, false) }) (v := undef) rfl (by kernel_rfl) (by kernel_rfl) (by kernel_rfl) (fun _ _ _ h => h) (Or.inr ⟨by rfl, rfl⟩) (by assumption) ?_
                  try simp only [Act.put, List.setIfInBounds_toArray, List.set_cons_zero, List.set_cons_succ]
                  refine wpAnyH_take (i := 36) (oi := { dst := some 78, op := Op.fieldAddr 57 (Operand.tmp 1) 1, type := 0, pos := "l07_store.go:29", after := #[{ on := 34, ground := Ground.guard }], guard := some (34, false) }) (v := undef) rfl (by kernel_rfl) (by kernel_rfl) (by kernel_rfl) (fun _ _ _ h => h) (Or.inr ⟨by rfl, rfl⟩) (by assumption) ?_
                  try simp only [Act.put, List.setIfInBounds_toArray, List.set_cons_zero, List.set_cons_succ]
                  refine wpAnyH_take (i := 37) (oi := { dst := some 79, op := Op.load 3 (Operand.tmp 78), type := 3, pos := "l07_store.go:29", after := #[{ on := 36, ground := Ground.data }, { on := 34, ground := Ground.guard }], guard := some (34, false) }) (v := undef) rfl (by kernel_rfl) (by kernel_rfl) (by kernel_rfl) (fun _ _ _ h => h) (Or.inr ⟨by rfl, rfl⟩) (by assumption) ?_
                  try simp only [Act.put, List.setIfInBounds_toArray, List.set_cons_zero, List.set_cons_succ]
                  refine wpAnyH_take (i := 38) (oi := { dst := some 80, op := Op.call { callee := Callee.value (Operand.func 116), args := #[Operand.tmp 77, Operand.tmp 79], argTypes := #[77, 3] }, type := 4, pos := "l07_store.go:29", after := #[{ on := 35, ground := Ground.data }, { on := 37, ground := Ground.data }, { on := 34, ground := Ground.chain }, { on := 34, ground := Ground.guard }], guard := some (34, false) }) (v := undef) rfl (by kernel_rfl) (by kernel_rfl) (by kernel_rfl) (fun _ _ _ h => h) (Or.inr ⟨by rfl, rfl⟩) (by assumption) ?_
                  try simp only [Act.put, List.setIfInBounds_toArray, List.set_cons_zero, List.set_cons_succ]
                  refine wpAnyH_take (i := 39) (oi := { dst := some 81, op := Op.unOp UnOp.not 4 (Operand.tmp 80), type := 4, pos := "l07_store.go:29", after := #[{ on := 38, ground := Ground.data }, { on := 34, ground := Ground.guard }], guard := some (34, false) }) (v := undef) rfl (by kernel_rfl) (by kernel_rfl) (by kernel_rfl) (fun _ _ _ h => h) (Or.inr ⟨by rfl, rfl⟩) (by assumption) ?_
                  try simp only [Act.put, List.setIfInBounds_toArray, List.set_cons_zero, List.set_cons_succ]
                  refine wpAnyH_take (i := 40) (oi := { dst := some 82, op := Op.pick (Operand.tmp 76) (Operand.const (Value.bool true)) (Operand.tmp 81), type := 4, pos := "l07_store.go:29", after := #[{ on := 34, ground := Ground.data }, { on := 39, ground := Ground.data }], guard := none }) (v := ?vc90_40) rfl (by kernel_rfl) (by kernel_rfl) (by kernel_rfl) (fun _ _ _ h => h) (Or.inl ⟨by rfl, ?hyc90_40⟩) (by assumption) ?restc90_40
                  case hyc90_40 => (intro w hSw; (try dsimp only at hSw); go_simp; try with_reducible rfl)
                  try simp only [Act.put, List.setIfInBounds_toArray, List.set_cons_zero, List.set_cons_succ]
                  refine wpAnyH_done (by kernel_rfl) ?_ _
                  refine NoPanic.normal ?_
                  have HE : Hid (sOk y tm S G = false) := by show _ = _; rw [HX.out, all_no (S := List.range S.length) (i := i) (by simpa using hil) (by rw [List.getElem_range, HST.out]; simp), Bool.false_and]
                  clear hHeld
                  go_wp2
                  go_ret
                  exact ⟨by rw [HE.out]; rfl, btr HB.out (btr B1.out (by repeat (first | exact bre _ | refine bdr ?_ | refine btr ?_ (by assumption))))⟩
              · have hzn2 : (zn != (i : Int)) = true := by simp [hzn]
                refine wpAnyH_take (i := 25) (oi := { dst := some 67, op := Op.binOp BinOp.neq 3 (Operand.tmp 65) (Operand.tmp 66) 3, type := 4, pos := "l07_store.go:29", after := #[{ on := 23, ground := Ground.data }, { on := 24, ground := Ground.data }, { on := 19, ground := Ground.guard }], guard := some (19, false) }) (v := ?vc91_25) rfl (by kernel_rfl) (by kernel_rfl) (by kernel_rfl) (fun _ _ _ h => h) (Or.inl ⟨by rfl, ?hyc91_25⟩) (by assumption) ?restc91_25
                case hyc91_25 => (intro w hSw; (try dsimp only at hSw); go_simp; try with_reducible rfl)
                try simp only [Act.put, List.setIfInBounds_toArray, List.set_cons_zero, List.set_cons_succ]
                refine wpAnyH_take (i := 26) (oi := { dst := some 68, op := Op.pick (Operand.tmp 61) (Operand.const (Value.bool true)) (Operand.tmp 67), type := 4, pos := "l07_store.go:29", after := #[{ on := 19, ground := Ground.data }, { on := 25, ground := Ground.data }], guard := none }) (v := ?vc92_26) rfl (by kernel_rfl) (by kernel_rfl) (by kernel_rfl) (fun _ _ _ h => h) (Or.inl ⟨by rfl, ?hyc92_26⟩) (by assumption) ?restc92_26
                case hyc92_26 => (intro w hSw; (try dsimp only at hSw); go_simp; try with_reducible rfl)
                try simp only [Act.put, List.setIfInBounds_toArray, List.set_cons_zero, List.set_cons_succ]
                refine wpAnyH_take (i := 27) (oi := { dst := some 69, op := Op.move (Operand.tmp 68), type := 4, pos := "l07_store.go:29", after := #[{ on := 26, ground := Ground.data }, { on := 23, ground := Ground.chain }], guard := none }) (v := ?vc93_27) rfl (by kernel_rfl) (by kernel_rfl) (by kernel_rfl) (fun _ _ _ h => h) (Or.inl ⟨by rfl, ?hyc93_27⟩) (by assumption) ?restc93_27
                case hyc93_27 => (intro w hSw; (try dsimp only at hSw); go_simp; try with_reducible rfl)
                try simp only [Act.put, List.setIfInBounds_toArray, List.set_cons_zero, List.set_cons_succ]
                refine wpAnyH_take (i := 28) (oi := { dst := some 70, op := Op.fieldAddr 57 (Operand.tmp 1) 3, type := 0, pos := "l07_store.go:29", after := #[{ on := 27, ground := Ground.guard }], guard := some (27, false) }) (v := undef) rfl (by kernel_rfl) (by kernel_rfl) (by kernel_rfl) (fun _ _ _ h => h) (Or.inr ⟨by rfl, rfl⟩) (by assumption) ?_
                try simp only [Act.put, List.setIfInBounds_toArray, List.set_cons_zero, List.set_cons_succ]
                refine wpAnyH_take (i := 29) (oi := { dst := some 71, op := Op.load 55 (Operand.tmp 70), type := 55, pos := "l07_store.go:29", after := #[{ on := 28, ground := Ground.data }, { on := 27, ground := Ground.guard }], guard := some (27, false) }) (v := undef) rfl (by kernel_rfl) (by kernel_rfl) (by kernel_rfl) (fun _ _ _ h => h) (Or.inr ⟨by rfl, rfl⟩) (by assumption) ?_
                try simp only [Act.put, List.setIfInBounds_toArray, List.set_cons_zero, List.set_cons_succ]
                refine wpAnyH_take (i := 30) (oi := { dst := some 72, op := Op.fieldAddr 77 (Operand.tmp 5) 0, type := 0, pos := "l07_store.go:29", after := #[{ on := 27, ground := Ground.guard }], guard := some (27, false) }) (v := undef) rfl (by kernel_rfl) (by kernel_rfl) (by kernel_rfl) (fun _ _ _ h => h) (Or.inr ⟨by rfl, rfl⟩) (by assumption) ?_
                try simp only [Act.put, List.setIfInBounds_toArray, List.set_cons_zero, List.set_cons_succ]
                refine wpAnyH_take (i := 31) (oi := { dst := some 73, op := Op.load 3 (Operand.tmp 72), type := 3, pos := "l07_store.go:29", after := #[{ on := 30, ground := Ground.data }, { on := 27, ground := Ground.guard }], guard := some (27, false) }) (v := undef) rfl (by kernel_rfl) (by kernel_rfl) (by kernel_rfl) (fun _ _ _ h => h) (Or.inr ⟨by rfl, rfl⟩) (by assumption) ?_
                try simp only [Act.put, List.setIfInBounds_toArray, List.set_cons_zero, List.set_cons_succ]
                refine wpAnyH_take (i := 32) (oi := { dst := some 74, op := Op.call { callee := Callee.value (Operand.func 113), args := #[Operand.tmp 71, Operand.tmp 73], argTypes := #[55, 3] }, type := 4, pos := "l07_store.go:29", after := #[{ on := 29, ground := Ground.data }, { on := 31, ground := Ground.data }, { on := 27, ground := Ground.chain }, { on := 27, ground := Ground.guard }], guard := some (27, false) }) (v := undef) rfl (by kernel_rfl) (by kernel_rfl) (by kernel_rfl) (fun _ _ _ h => h) (Or.inr ⟨by rfl, rfl⟩) (by assumption) ?_
                try simp only [Act.put, List.setIfInBounds_toArray, List.set_cons_zero, List.set_cons_succ]
                refine wpAnyH_take (i := 33) (oi := { dst := some 75, op := Op.pick (Operand.tmp 69) (Operand.const (Value.bool true)) (Operand.tmp 74), type := 4, pos := "l07_store.go:29", after := #[{ on := 27, ground := Ground.data }, { on := 32, ground := Ground.data }], guard := none }) (v := ?vc99_33) rfl (by kernel_rfl) (by kernel_rfl) (by kernel_rfl) (fun _ _ _ h => h) (Or.inl ⟨by rfl, ?hyc99_33⟩) (by assumption) ?restc99_33
                case hyc99_33 => (intro w hSw; (try dsimp only at hSw); go_simp; try with_reducible rfl)
                try simp only [Act.put, List.setIfInBounds_toArray, List.set_cons_zero, List.set_cons_succ]
                refine wpAnyH_take (i := 34) (oi := { dst := some 76, op := Op.move (Operand.tmp 75), type := 4, pos := "l07_store.go:29", after := #[{ on := 33, ground := Ground.data }, { on := 32, ground := Ground.chain }], guard := none }) (v := ?vc100_34) rfl (by kernel_rfl) (by kernel_rfl) (by kernel_rfl) (fun _ _ _ h => h) (Or.inl ⟨by rfl, ?hyc100_34⟩) (by assumption) ?restc100_34
                case hyc100_34 => (intro w hSw; (try dsimp only at hSw); go_simp; try with_reducible rfl)
                try simp only [Act.put, List.setIfInBounds_toArray, List.set_cons_zero, List.set_cons_succ]
                refine wpAnyH_take (i := 35) (oi := { dst := some 77, op := Op.load 77 (Operand.tmp 5), type := 77, pos := "l07_store.go:29", after := #[{ on := 34, ground := Ground.guard }], guard := some (34, false) }) (v := undef) rfl (by kernel_rfl) (by kernel_rfl) (by kernel_rfl) (fun _ _ _ h => h) (Or.inr ⟨by rfl, rfl⟩) (by assumption) ?_
                try simp only [Act.put, List.setIfInBounds_toArray, List.set_cons_zero, List.set_cons_succ]
                refine wpAnyH_take (i := 36) (oi := { dst := some 78, op := Op.fieldAddr 57 (Operand.tmp 1) 1, type := 0, pos := "l07_store.go:29", after := #[{ on := 34, ground := Ground.guard }], guard := some (34, false) }) (v := undef) rfl (by kernel_rfl) (by kernel_rfl) (by kernel_rfl) (fun _ _ _ h => h) (Or.inr ⟨by rfl, rfl⟩) (by assumption) ?_
                try simp only [Act.put, List.setIfInBounds_toArray, List.set_cons_zero, List.set_cons_succ]
                refine wpAnyH_take (i := 37) (oi := { dst := some 79, op := Op.load 3 (Operand.tmp 78), type := 3, pos := "l07_store.go:29", after := #[{ on := 36, ground := Ground.data }, { on := 34, ground := Ground.guard }], guard := some (34, false) }) (v := undef) rfl (by kernel_rfl) (by kernel_rfl) (by kernel_rfl) (fun _ _ _ h => h) (Or.inr ⟨by rfl, rfl⟩) (by assumption) ?_
                try simp only [Act.put, List.setIfInBounds_toArray, List.set_cons_zero, List.set_cons_succ]
                refine wpAnyH_take (i := 38) (oi := { dst := some 80, op := Op.call { callee := Callee.value (Operand.func 116), args := #[Operand.tmp 77, Operand.tmp 79], argTypes := #[77, 3] }, type := 4, pos := "l07_store.go:29", after := #[{ on := 35, ground := Ground.data }, { on := 37, ground := Ground.data }, { on := 34, ground := Ground.chain }, { on := 34, ground := Ground.guard }], guard := some (34, false) }) (v := undef) rfl (by kernel_rfl) (by kernel_rfl) (by kernel_rfl) (fun _ _ _ h => h) (Or.inr ⟨by rfl, rfl⟩) (by assumption) ?_
                try simp only [Act.put, List.setIfInBounds_toArray, List.set_cons_zero, List.set_cons_succ]
                refine wpAnyH_take (i := 39) (oi := { dst := some 81, op := Op.unOp UnOp.not 4 (Operand.tmp 80), type := 4, pos := "l07_store.go:29", after := #[{ on := 38, ground := Ground.data }, { on := 34, ground := Ground.guard }], guard := some (34, false) }) (v := undef) rfl (by kernel_rfl) (by kernel_rfl) (by kernel_rfl) (fun _ _ _ h => h) (Or.inr ⟨by rfl, rfl⟩) (by assumption) ?_
                try simp only [Act.put, List.setIfInBounds_toArray, List.set_cons_zero, List.set_cons_succ]
                refine wpAnyH_take (i := 40) (oi := { dst := some 82, op := Op.pick (Operand.tmp 76) (Operand.const (Value.bool true)) (Operand.tmp 81), type := 4, pos := "l07_store.go:29", after := #[{ on := 34, ground := Ground.data }, { on := 39, ground := Ground.data }], guard := none }) (v := ?vc106_40) rfl (by kernel_rfl) (by kernel_rfl) (by kernel_rfl) (fun _ _ _ h => h) (Or.inl ⟨by rfl, ?hyc106_40⟩) (by assumption) ?restc106_40
                case hyc106_40 => (intro w hSw; (try dsimp only at hSw); go_simp; try with_reducible rfl)
                try simp only [Act.put, List.setIfInBounds_toArray, List.set_cons_zero, List.set_cons_succ]
                refine wpAnyH_done (by kernel_rfl) ?_ _
                refine NoPanic.normal ?_
                have HE : Hid (sOk y tm S G = false) := by show _ = _; rw [HX.out, all_no (S := List.range S.length) (i := i) (by simpa using hil) (by rw [List.getElem_range, HST.out]; simp [hzn]), Bool.false_and]
                clear hHeld
                go_wp2
                go_ret
                exact ⟨by rw [HE.out]; rfl, btr HB.out (btr B1.out (by repeat (first | exact bre _ | refine bdr ?_ | refine btr ?_ (by assumption))))⟩
            · have hle2 : g1 ≤ u0 := by omega
              refine wpAnyH_take (i := 16) (oi := { dst := some 58, op := Op.binOp BinOp.geq 3 (Operand.tmp 55) (Operand.tmp 57) 3, type := 4, pos := "l07_store.go:29", after := #[{ on := 13, ground := Ground.data }, { on := 15, ground := Ground.data }, { on := 6, ground := Ground.guard }], guard := some (6, true) }) (v := ?vc107_16) rfl (by kernel_rfl) (by kernel_rfl) (by kernel_rfl) (fun _ _ _ h => h) (Or.inl ⟨by rfl, ?hyc107_16⟩) (by assumption) ?restc107_16
              case hyc107_16 => (intro w hSw; (try dsimp only at hSw); go_simp; try with_reducible rfl)
              try simp only [Act.put, List.setIfInBounds_toArray, List.set_cons_zero, List.set_cons_succ]
              refine wpAnyH_take (i := 17) (oi := { dst := some 59, op := Op.pick (Operand.tmp 48) (Operand.tmp 58) (Operand.const (Value.bool false)), type := 4, pos := "l07_store.go:29", after := #[{ on := 6, ground := Ground.data }, { on := 16, ground := Ground.data }, { on := 3, ground := Ground.guard }], guard := some (3, false) }) (v := ?vc108_17) rfl (by kernel_rfl) (by kernel_rfl) (by kernel_rfl) (fun _ _ _ h => h) (Or.inl ⟨by rfl, ?hyc108_17⟩) (by assumption) ?restc108_17
              case hyc108_17 => (intro w hSw; (try dsimp only at hSw); go_simp; try with_reducible rfl)
              try simp only [Act.put, List.setIfInBounds_toArray, List.set_cons_zero, List.set_cons_succ]
              refine wpAnyH_take (i := 18) (oi := { dst := some 60, op := Op.pick (Operand.tmp 45) (Operand.const (Value.bool true)) (Operand.tmp 59), type := 4, pos := "l07_store.go:29", after := #[{ on := 3, ground := Ground.data }, { on := 17, ground := Ground.data }], guard := none }) (v := ?vc109_18) rfl (by kernel_rfl) (by kernel_rfl) (by kernel_rfl) (fun _ _ _ h => h) (Or.inl ⟨by rfl, ?hyc109_18⟩) (by assumption) ?restc109_18
              case hyc109_18 => (intro w hSw; (try dsimp only at hSw); go_simp; try with_reducible rfl)
              try simp only [Act.put, List.setIfInBounds_toArray, List.set_cons_zero, List.set_cons_succ]
              refine wpAnyH_take (i := 19) (oi := { dst := some 61, op := Op.move (Operand.tmp 60), type := 4, pos := "l07_store.go:29", after := #[{ on := 18, ground := Ground.data }, { on := 6, ground := Ground.chain }], guard := none }) (v := ?vc110_19) rfl (by kernel_rfl) (by kernel_rfl) (by kernel_rfl) (fun _ _ _ h => h) (Or.inl ⟨by rfl, ?hyc110_19⟩) (by assumption) ?restc110_19
              case hyc110_19 => (intro w hSw; (try dsimp only at hSw); go_simp; try with_reducible rfl)
              try simp only [Act.put, List.setIfInBounds_toArray, List.set_cons_zero, List.set_cons_succ]
              refine wpAnyH_take (i := 20) (oi := { dst := some 62, op := Op.load 57 (Operand.tmp 1), type := 57, pos := "l07_store.go:29", after := #[{ on := 19, ground := Ground.guard }], guard := some (19, false) }) (v := undef) rfl (by kernel_rfl) (by kernel_rfl) (by kernel_rfl) (fun _ _ _ h => h) (Or.inr ⟨by rfl, rfl⟩) (by assumption) ?_
              try simp only [Act.put, List.setIfInBounds_toArray, List.set_cons_zero, List.set_cons_succ]
              refine wpAnyH_take (i := 21) (oi := { dst := some 63, op := Op.fieldAddr 77 (Operand.tmp 5) 1, type := 0, pos := "l07_store.go:29", after := #[{ on := 19, ground := Ground.guard }], guard := some (19, false) }) (v := undef) rfl (by kernel_rfl) (by kernel_rfl) (by kernel_rfl) (fun _ _ _ h => h) (Or.inr ⟨by rfl, rfl⟩) (by assumption) ?_
              try simp only [Act.put, List.setIfInBounds_toArray, List.set_cons_zero, List.set_cons_succ]
              refine wpAnyH_take (i := 22) (oi := { dst := some 64, op := Op.load 9 (Operand.tmp 63), type := 9, pos := "l07_store.go:29", after := #[{ on := 21, ground := Ground.data }, { on := 19, ground := Ground.guard }], guard := some (19, false) }) (v := undef) rfl (by kernel_rfl) (by kernel_rfl) (by kernel_rfl) (fun _ _ _ h => h) (Or.inr ⟨by rfl, rfl⟩) (by assumption) ?_
              try simp only [Act.put, List.setIfInBounds_toArray, List.set_cons_zero, List.set_cons_succ]
              refine wpAnyH_take (i := 24) (oi := { dst := some 66, op := Op.move (Operand.tmp 4), type := 3, pos := "l07_store.go:29", after := #[{ on := 19, ground := Ground.guard }], guard := some (19, false) }) (v := undef) rfl (by kernel_rfl) (by kernel_rfl) (by kernel_rfl) (fun _ _ _ h => h) (Or.inr ⟨by rfl, rfl⟩) (by assumption) ?_
              try simp only [Act.put, List.setIfInBounds_toArray, List.set_cons_zero, List.set_cons_succ]
              refine wpAnyH_take (i := 23) (oi := { dst := some 65, op := Op.call { callee := Callee.value (Operand.func 115), args := #[Operand.tmp 62, Operand.tmp 64], argTypes := #[57, 9] }, type := 3, pos := "l07_store.go:29", after := #[{ on := 20, ground := Ground.data }, { on := 22, ground := Ground.data }, { on := 19, ground := Ground.chain }, { on := 19, ground := Ground.guard }], guard := some (19, false) }) (v := undef) rfl (by kernel_rfl) (by kernel_rfl) (by kernel_rfl) (fun _ _ _ h => h) (Or.inr ⟨by rfl, rfl⟩) (by assumption) ?_
              try simp only [Act.put, List.setIfInBounds_toArray, List.set_cons_zero, List.set_cons_succ]
              refine wpAnyH_take (i := 25) (oi := { dst := some 67, op := Op.binOp BinOp.neq 3 (Operand.tmp 65) (Operand.tmp 66) 3, type := 4, pos := "l07_store.go:29", after := #[{ on := 23, ground := Ground.data }, { on := 24, ground := Ground.data }, { on := 19, ground := Ground.guard }], guard := some (19, false) }) (v := undef) rfl (by kernel_rfl) (by kernel_rfl) (by kernel_rfl) (fun _ _ _ h => h) (Or.inr ⟨by rfl, rfl⟩) (by assumption) ?_
              try simp only [Act.put, List.setIfInBounds_toArray, List.set_cons_zero, List.set_cons_succ]
              refine wpAnyH_take (i := 26) (oi := { dst := some 68, op := Op.pick (Operand.tmp 61) (Operand.const (Value.bool true)) (Operand.tmp 67), type := 4, pos := "l07_store.go:29", after := #[{ on := 19, ground := Ground.data }, { on := 25, ground := Ground.data }], guard := none }) (v := ?vc117_26) rfl (by kernel_rfl) (by kernel_rfl) (by kernel_rfl) (fun _ _ _ h => h) (Or.inl ⟨by rfl, ?hyc117_26⟩) (by assumption) ?restc117_26
              case hyc117_26 => (intro w hSw; (try dsimp only at hSw); go_simp; try with_reducible rfl)
              try simp only [Act.put, List.setIfInBounds_toArray, List.set_cons_zero, List.set_cons_succ]
              refine wpAnyH_take (i := 27) (oi := { dst := some 69, op := Op.move (Operand.tmp 68), type := 4, pos := "l07_store.go:29", after := #[{ on := 26, ground := Ground.data }, { on := 23, ground := Ground.chain }], guard := none }) (v := ?vc118_27) rfl (by kernel_rfl) (by kernel_rfl) (by kernel_rfl) (fun _ _ _ h => h) (Or.inl ⟨by rfl, ?hyc118_27⟩) (by assumption) ?restc118_27
              case hyc118_27 => (intro w hSw; (try dsimp only at hSw); go_simp; try with_reducible rfl)
              try simp only [Act.put, List.setIfInBounds_toArray, List.set_cons_zero, List.set_cons_succ]
              refine wpAnyH_take (i := 28) (oi := { dst := some 70, op := Op.fieldAddr 57 (Operand.tmp 1) 3, type := 0, pos := "l07_store.go:29", after := #[{ on := 27, ground := Ground.guard }], guard := some (27, false) }) (v := undef) rfl (by kernel_rfl) (by kernel_rfl) (by kernel_rfl) (fun _ _ _ h => h) (Or.inr ⟨by rfl, rfl⟩) (by assumption) ?_
              try simp only [Act.put, List.setIfInBounds_toArray, List.set_cons_zero, List.set_cons_succ]
              refine wpAnyH_take (i := 29) (oi := { dst := some 71, op := Op.load 55 (Operand.tmp 70), type := 55, pos := "l07_store.go:29", after := #[{ on := 28, ground := Ground.data }, { on := 27, ground := Ground.guard }], guard := some (27, false) }) (v := undef) rfl (by kernel_rfl) (by kernel_rfl) (by kernel_rfl) (fun _ _ _ h => h) (Or.inr ⟨by rfl, rfl⟩) (by assumption) ?_
              try simp only [Act.put, List.setIfInBounds_toArray, List.set_cons_zero, List.set_cons_succ]
              refine wpAnyH_take (i := 30) (oi := { dst := some 72, op := Op.fieldAddr 77 (Operand.tmp 5) 0, type := 0, pos := "l07_store.go:29", after := #[{ on := 27, ground := Ground.guard }], guard := some (27, false) }) (v := undef) rfl (by kernel_rfl) (by kernel_rfl) (by kernel_rfl) (fun _ _ _ h => h) (Or.inr ⟨by rfl, rfl⟩) (by assumption) ?_
              try simp only [Act.put, List.setIfInBounds_toArray, List.set_cons_zero, List.set_cons_succ]
              refine wpAnyH_take (i := 31) (oi := { dst := some 73, op := Op.load 3 (Operand.tmp 72), type := 3, pos := "l07_store.go:29", after := #[{ on := 30, ground := Ground.data }, { on := 27, ground := Ground.guard }], guard := some (27, false) }) (v := undef) rfl (by kernel_rfl) (by kernel_rfl) (by kernel_rfl) (fun _ _ _ h => h) (Or.inr ⟨by rfl, rfl⟩) (by assumption) ?_
              try simp only [Act.put, List.setIfInBounds_toArray, List.set_cons_zero, List.set_cons_succ]
              refine wpAnyH_take (i := 32) (oi := { dst := some 74, op := Op.call { callee := Callee.value (Operand.func 113), args := #[Operand.tmp 71, Operand.tmp 73], argTypes := #[55, 3] }, type := 4, pos := "l07_store.go:29", after := #[{ on := 29, ground := Ground.data }, { on := 31, ground := Ground.data }, { on := 27, ground := Ground.chain }, { on := 27, ground := Ground.guard }], guard := some (27, false) }) (v := undef) rfl (by kernel_rfl) (by kernel_rfl) (by kernel_rfl) (fun _ _ _ h => h) (Or.inr ⟨by rfl, rfl⟩) (by assumption) ?_
              try simp only [Act.put, List.setIfInBounds_toArray, List.set_cons_zero, List.set_cons_succ]
              refine wpAnyH_take (i := 33) (oi := { dst := some 75, op := Op.pick (Operand.tmp 69) (Operand.const (Value.bool true)) (Operand.tmp 74), type := 4, pos := "l07_store.go:29", after := #[{ on := 27, ground := Ground.data }, { on := 32, ground := Ground.data }], guard := none }) (v := ?vc124_33) rfl (by kernel_rfl) (by kernel_rfl) (by kernel_rfl) (fun _ _ _ h => h) (Or.inl ⟨by rfl, ?hyc124_33⟩) (by assumption) ?restc124_33
              case hyc124_33 => (intro w hSw; (try dsimp only at hSw); go_simp; try with_reducible rfl)
              try simp only [Act.put, List.setIfInBounds_toArray, List.set_cons_zero, List.set_cons_succ]
              refine wpAnyH_take (i := 34) (oi := { dst := some 76, op := Op.move (Operand.tmp 75), type := 4, pos := "l07_store.go:29", after := #[{ on := 33, ground := Ground.data }, { on := 32, ground := Ground.chain }], guard := none }) (v := ?vc125_34) rfl (by kernel_rfl) (by kernel_rfl) (by kernel_rfl) (fun _ _ _ h => h) (Or.inl ⟨by rfl, ?hyc125_34⟩) (by assumption) ?restc125_34
              case hyc125_34 => (intro w hSw; (try dsimp only at hSw); go_simp; try with_reducible rfl)
              try simp only [Act.put, List.setIfInBounds_toArray, List.set_cons_zero, List.set_cons_succ]
              refine wpAnyH_take (i := 35) (oi := { dst := some 77, op := Op.load 77 (Operand.tmp 5), type := 77, pos := "l07_store.go:29", after := #[{ on := 34, ground := Ground.guard }], guard := some (34, false) }) (v := undef) rfl (by kernel_rfl) (by kernel_rfl) (by kernel_rfl) (fun _ _ _ h => h) (Or.inr ⟨by rfl, rfl⟩) (by assumption) ?_
              try simp only [Act.put, List.setIfInBounds_toArray, List.set_cons_zero, List.set_cons_succ]
              refine wpAnyH_take (i := 36) (oi := { dst := some 78, op := Op.fieldAddr 57 (Operand.tmp 1) 1, type := 0, pos := "l07_store.go:29", after := #[{ on := 34, ground := Ground.guard }], guard := some (34, false) }) (v := undef) rfl (by kernel_rfl) (by kernel_rfl) (by kernel_rfl) (fun _ _ _ h => h) (Or.inr ⟨by rfl, rfl⟩) (by assumption) ?_
              try simp only [Act.put, List.setIfInBounds_toArray, List.set_cons_zero, List.set_cons_succ]
              refine wpAnyH_take (i := 37) (oi := { dst := some 79, op := Op.load 3 (Operand.tmp 78), type := 3, pos := "l07_store.go:29", after := #[{ on := 36, ground := Ground.data }, { on := 34, ground := Ground.guard }], guard := some (34, false) }) (v := undef) rfl (by kernel_rfl) (by kernel_rfl) (by kernel_rfl) (fun _ _ _ h => h) (Or.inr ⟨by rfl, rfl⟩) (by assumption) ?_
              try simp only [Act.put, List.setIfInBounds_toArray, List.set_cons_zero, List.set_cons_succ]
              refine wpAnyH_take (i := 38) (oi := { dst := some 80, op := Op.call { callee := Callee.value (Operand.func 116), args := #[Operand.tmp 77, Operand.tmp 79], argTypes := #[77, 3] }, type := 4, pos := "l07_store.go:29", after := #[{ on := 35, ground := Ground.data }, { on := 37, ground := Ground.data }, { on := 34, ground := Ground.chain }, { on := 34, ground := Ground.guard }], guard := some (34, false) }) (v := undef) rfl (by kernel_rfl) (by kernel_rfl) (by kernel_rfl) (fun _ _ _ h => h) (Or.inr ⟨by rfl, rfl⟩) (by assumption) ?_
              try simp only [Act.put, List.setIfInBounds_toArray, List.set_cons_zero, List.set_cons_succ]
              refine wpAnyH_take (i := 39) (oi := { dst := some 81, op := Op.unOp UnOp.not 4 (Operand.tmp 80), type := 4, pos := "l07_store.go:29", after := #[{ on := 38, ground := Ground.data }, { on := 34, ground := Ground.guard }], guard := some (34, false) }) (v := undef) rfl (by kernel_rfl) (by kernel_rfl) (by kernel_rfl) (fun _ _ _ h => h) (Or.inr ⟨by rfl, rfl⟩) (by assumption) ?_
              try simp only [Act.put, List.setIfInBounds_toArray, List.set_cons_zero, List.set_cons_succ]
              refine wpAnyH_take (i := 40) (oi := { dst := some 82, op := Op.pick (Operand.tmp 76) (Operand.const (Value.bool true)) (Operand.tmp 81), type := 4, pos := "l07_store.go:29", after := #[{ on := 34, ground := Ground.data }, { on := 39, ground := Ground.data }], guard := none }) (v := ?vc131_40) rfl (by kernel_rfl) (by kernel_rfl) (by kernel_rfl) (fun _ _ _ h => h) (Or.inl ⟨by rfl, ?hyc131_40⟩) (by assumption) ?restc131_40
              case hyc131_40 => (intro w hSw; (try dsimp only at hSw); go_simp; try with_reducible rfl)
              try simp only [Act.put, List.setIfInBounds_toArray, List.set_cons_zero, List.set_cons_succ]
              refine wpAnyH_done (by kernel_rfl) ?_ _
              refine NoPanic.normal ?_
              have HE : Hid (sOk y tm S G = false) := by show _ = _; rw [HX.out, all_no (S := List.range S.length) (i := i) (by simpa using hil) (by rw [List.getElem_range, HST.out]; simp [hle]), Bool.false_and]
              clear hHeld
              go_wp2
              go_ret
              exact ⟨by rw [HE.out]; rfl, btr HB.out (btr B1.out (by repeat (first | exact bre _ | refine bdr ?_ | refine btr ?_ (by assumption))))⟩

    · have HE : Hid (sOk y tm S G = true) := by
        show _ = _
        have e := HL.out
        have h1 := HND.out
        rw [List.take_of_length_le (by omega)] at h1
        rw [HX.out, List.all_eq_true.2 (fun j hj => HA.out j (by have := List.mem_range.1 hj; omega) (List.mem_range.1 hj))]
        simp [h1]
      go_wp2
      go_ret
      exact ⟨by rw [HE.out]; rfl, HB.out⟩
end Go.Proofs.YtlhofbnnonljaaaGreatDoor
