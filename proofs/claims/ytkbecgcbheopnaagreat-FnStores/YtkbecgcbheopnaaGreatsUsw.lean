/- Usv, Usw. -/

import Derived.Test.YtkbecgcbheopnaaGreatsUsu
namespace Go.Proofs.YtkbecgcbheopnaaGreat
open Go.RowKit Go.ChangeMaps
set_option maxHeartbeats 1600000 in
set_option maxRecDepth 100000 in
theorem l07Store_any (cb : Nat) (ao : Option Addr) (n cap : Nat) (w : World) (hn : n ≤ 1048576) (hcur : Cur w cb ao n cap) (hcode : Code w cb ao n) :
  Calls Tryz.prog 36 #[.pointer (some ⟨cb, 0, none⟩)] w fun e w' => Sto7 cb ao n cap w e w' := by
 have hlt := hcur.lt
 have R0 := hid (Sx.new w 27 0 0 (.slice none 0 0) (.slice none 0 0))
 have C0 := hid (hcur.alloc (.cells #[.int .i64 0, .int .i64 0, .slice none 0 0, .slice none 0 0] 27))
 have HO := hid hcode
 have G0 := hid (World.grownBy_alloc w (.cells #[.int .i64 0, .int .i64 0, .slice none 0 0, .slice none 0 0] 27) (some cb))
 clear hcur hcode
 go_enter Tryz.func36, Tryz.ntmps36
 go_wp2_with fail
 refine (below4 cb ao n cap _ hn C0.out (HO.out.later G0.out) 12 (by decide) (by decide)).mono ?_; rintro e w1 ⟨x, hx, rfl, hc, hg⟩
 have C1 := hid hc
 have G1 := hid (only_trans G0.out hg)
 have R1 := hid (R0.out.off hg (by omega))
 clear hc hg C0 G0 R0
 go_wp2_with fail
 have hm : ∃ m : Nat, m ≤ 13 ∧ (2 + (x : Int)) = (m : Int) := ⟨2 + x, by omega, by omega⟩
 obtain ⟨m, hm, hme⟩ := hm
 try rw [hme]
 have HME := hid hme
 clear hme
 refine (below4 cb ao n cap _ hn C1.out (HO.out.later G1.out) 2 (by decide) (by decide)).mono ?_; rintro e w2 ⟨z, hz, rfl, hc, hg⟩
 have C2 := hid hc
 have G2 := hid (only_trans G1.out hg)
 have R2 := hid (R1.out.off hg (by omega))
 clear hc hg C1 G1 R1
 go_wp2_with fail
 refine (specStoreNew_any _ _).mono ?_; rintro e w3 ⟨rfl, hb⟩
 have C3 := hid (C2.out.later hb C2.out.lt)
 have G3 := hid (only_add G2.out (hb.mono G2.out.size))
 have R3 := hid (R2.out.later hb)
 clear hb C2 G2 R2
 go_wp2_with fail
 try rw [HME.out]
 refine (l07Use_any cb ao n cap (1 + (z : Int)) m _ hn C3.out (HO.out.later G3.out) (by omega) hm).mono ?_
 rintro e w4 ⟨hi, y, tm, ba, bn, bc, ga, gn, gc, S, G, rfl, hr, ht, hc, hg⟩
 have C4 := hid hc
 have G4 := hid (only_trans G3.out hg)
 have hR := R3.out.off hg (by omega)
 have HS : Hid (w.heap.size + 1 ≤ w3.heap.size) := R3.out.lt
 have HR := hid hR
 have HT := hid ht
 have HRR := hid hr
 have q1 := hR.cells
 have f1 := hR.loose
 clear hR ht hr hc hg C3 G3 R3 hx hz hm HME
 go_wp2
 have e2 := put4_grown w4 w.heap.size y tm (.slice ba bn bc) (.slice ga gn gc)
 have d1 := (HR.out.put4 y tm (.slice ba bn bc) (.slice ga gn gc)).cells
 have e3 : w.grownBy (put4 w4 w.heap.size y tm (.slice ba bn bc) (.slice ga gn gc)) (some cb) := by
  unfold put4
  exact gset (gset (gset (gset G4.out (Nat.le_refl _) _ _) (Nat.le_refl _) _ _) (Nat.le_refl _) _ _) (Nat.le_refl _) _ _
 have e4 : Cur (put4 w4 w.heap.size y tm (.slice ba bn bc) (.slice ga gn gc)) cb ao n cap := by
  unfold put4
  exact (((C4.out.set (by omega)).set (by omega)).set (by omega)).set (by omega)
 have e5 := (HT.out.far e2 (.inl HS.out))
 unfold put4 at d1 e2 e3 e4 e5
 refine bodyPost_ret (v := .agg #[.int .i64 y, .int .i64 tm, .slice ba bn bc, .slice ga gn gc]) (by simp [results, Tryz.results36, go_sem, d1]) rfl ⟨hi, y, tm, ba, bn, bc, ga, gn, gc, S, G, rfl, HRR.out, ?_, e4, e3⟩
 exact e5.wide (by have := HS.out; omega) (Nat.le_refl _) e5.top
def Dst7 (w : World) (e : Ending) (w' : World) : Prop :=
 ∃ (hi : Nat) (y tm : Int) (ba : Option Addr) (bn bc : Nat) (ga : Option Addr) (gn gc : Nat) (S : List X7) (G : List Int), e = .returned (.agg #[.int .i64 y, .int .i64 tm, .slice ba bn bc, .slice ga gn gc]) ∧ R7 13 y tm S G ∧ Tg w' w.heap.size hi ba bn bc ga gn gc S G ∧ Below w.heap.size w w'
set_option maxHeartbeats 1600000 in
set_option maxRecDepth 100000 in
theorem drawStore_any (ao : Option Addr) (n cap : Nat) (w : World) (hn : n ≤ 1048576) (hcode : Code w w.heap.size ao n) :
  Calls Tryz.prog 6 #[.slice ao n cap] w fun e w' => Dst7 w e w' := by
 have R0 := hid (Sx.new w 27 0 0 (.slice none 0 0) (.slice none 0 0))
 have N0 := hid (bpush (bre w) (.cells #[.int .i64 0, .int .i64 0, .slice none 0 0, .slice none 0 0] 27))
 have O0 := hid (hcode.over N0.out)
 clear hcode
 go_enter Tryz.func6, Tryz.ntmps6
 go_wp2_with fail
 refine (new_any ao n cap _ hn O0.out).mono ?_; rintro e w1 ⟨rfl, hc, ho, hb⟩
 have e1 : (w.alloc (.cells #[.int .i64 0, .int .i64 0, .slice none 0 0, .slice none 0 0] 27)).heap.size = w.heap.size + 1 := by simp
 rw [e1] at hc ho ⊢
 have C1 := hid hc
 have O1 := hid ho
 have R1 := hid (R0.out.later hb)
 have B1 := hid (btr N0.out hb)
 clear hc ho hb R0 N0 O0 e1
 go_wp2_with fail
 refine (l07Store_any (w.heap.size + 1) ao n cap _ hn C1.out O1.out).mono ?_
 rintro e w2 ⟨hi, y, tm, ba, bn, bc, ga, gn, gc, S, G, rfl, hr, ht, hc, hg⟩
 have HS : Hid (w.heap.size < w1.heap.size) := R1.out.lt
 have hR := R1.out.off hg (by omega)
 have HR := hid hR
 have HT := hid ht
 have HRR := hid hr
 have B2 := hid (B1.out.trans (only_below hg (by omega) B1.out.size))
 have q1 := hR.cells
 have f1 := hR.loose
 clear hR ht hr hc hg C1 O1 R1 B1
 go_wp2
 have e2 := put4_grown w2 w.heap.size y tm (.slice ba bn bc) (.slice ga gn gc)
 have d1 := (HR.out.put4 y tm (.slice ba bn bc) (.slice ga gn gc)).cells
 have e5 := (HT.out.far e2 (.inl HS.out))
 have e6 := B2.out.trans (only_below e2 (Nat.le_refl _) B2.out.size)
 unfold put4 at d1 e2 e5 e6
 refine bodyPost_ret (v := .agg #[.int .i64 y, .int .i64 tm, .slice ba bn bc, .slice ga gn gc]) (by simp [results, Tryz.results6, go_sem, d1]) rfl ⟨hi, y, tm, ba, bn, bc, ga, gn, gc, S, G, rfl, HRR.out, ?_, e6⟩
 exact e5.wide (by have := HS.out; omega) (Nat.le_refl _) e5.top
def nmFresh : ByteArray := ⟨#[102, 114, 101, 115, 104]⟩
theorem fidx_has {α : Type} {p : α → Bool} {S : List α} {x : α} (hx : x ∈ S) (hp : p x = true) (k : Nat) : 0 ≤ fidx p S k := by
 induction S generalizing k with
 | nil => cases hx
 | cons a S ih =>
  unfold fidx
  split
  ·omega
  ·next h =>
   rcases List.mem_cons.1 hx with rfl | hx
   ·exact absurd hp h
   ·exact ih hx (k + 1)
theorem fidx_none {α : Type} {p : α → Bool} {S : List α} (h : ∀ x ∈ S, p x = false) (k : Nat) : fidx p S k = -1 := by
 induction S generalizing k with
 | nil => rfl
 | cons a S ih =>
  unfold fidx
  rw [if_neg (by rw [h a (List.mem_cons_self ..)]; decide)]
  exact ih (fun x hx => h x (List.mem_cons_of_mem _ hx)) (k + 1)
theorem fresh_not {nm : ByteArray} (h : nm ∈ nm5) : nm ≠ nmFresh := by
 simp only [nm5, List.mem_cons, List.not_mem_nil, or_false] at h
 rcases h with rfl | rfl | rfl | rfl | rfl <;> decide
section
variable {y tm : Int} {S : List X7} {G : List Int}
theorem R7.unknown {x : Int} (h : R7 13 y tm S G) (hx : x < 100 ∨ 113 ≤ x) : kno x S G = false := by
 have hr : ∀ z, inR 13 z → z ≠ x := fun z hz => by have h1 := hz.1; have h2 := hz.2; omega
 have h1 : S.any (isG x) = false := List.any_eq_false.2 (fun z hz => by have := hr _ (h.box z hz).gid; simp [isG, this])
 have h2 : inl x G = false := by
  cases e : inl x G with
  | false => rfl
  | true => exact absurd rfl (hr x (h.gon x (inl_iff.1 e)))
 have h3 : S.any (hasG x) = false := List.any_eq_false.2 (fun z hz => by
   have hb := h.box z hz
   have a1 : z.2.2.2.2.2.1.any (fun m => decide (m.1 = x)) = false := List.any_eq_false.2 (fun m hm => by have := hr _ (hb.mls m hm); simp [this])
   have a2 : inl x z.2.2.2.2.2.2 = false := by
     cases e : inl x z.2.2.2.2.2.2 with
     | false => rfl
     | true => exact absurd rfl (hr x (hb.gon x (inl_iff.1 e)))
   simp [hasG, a1, a2])
 simp [kno, h1, h2, h3]
theorem R7.at_gid (h : R7 13 y tm S G) {i : Nat} (hi : i < S.length) : fidx (isG S[i].1) S 0 = (i : Int) := by
 have hp := sOk_pw h.ok
 rw [fidx_first S i 0 hi (fun j hj => ?_) (by simp [isG])]
 ·simp
 ·have := (List.pairwise_iff_getElem.1 hp) j i (by omega) hi hj
  have h2 : S[j].1 ≠ S[i].1 := by omega
  simp [isG, h2]
theorem fn_none (h : R7 13 y tm [] G) : (sOk y tm [] G && ((!kno 5 [] G && !(([] : List X7).any (isN ⟨#[105, 110, 98, 111, 120]⟩))) && sOk y (tm + 1) (insX (5, ⟨#[105, 110, 98, 111, 120]⟩, tm + 1, y, 1, [], []) []) G)) = true := by
 obtain ⟨ha, hb, _, hd, _⟩ := sOk_iff.1 h.ok
 have hk := h.unknown (x := 5) (by omega)
 have hi : inl 5 G = false := by simp only [kno, Bool.or_eq_false_iff] at hk; exact hk.2.1
 have ht := h.time
 have h1 : sOk y (tm + 1) (insX (5, ⟨#[105, 110, 98, 111, 120]⟩, tm + 1, y, 1, [], []) []) G = true := by
  refine sOk_iff.2 ⟨ha, ⟨by omega, by omega⟩, by simp [insX], hd, by simp [insX, gids], fun x hx => ?_, by simp [insX], by simp [insX]⟩
  simp only [insX, List.countP_nil, List.take_nil, List.drop_nil, List.nil_append, List.mem_cons, List.not_mem_nil, or_false] at hx
  subst hx
  refine ⟨?_, hi, ?_⟩
  ·show bxOk 5 ⟨#[105, 110, 98, 111, 120]⟩ (tm + 1) y 1 [] [] = true
   refine bx_iff.2 ⟨by decide, by decide, ?_, by decide, by decide, by decide, (fun m hm => by cases hm), List.Pairwise.nil, by decide⟩
   simp only [stOk, decide_eq_true_eq]; omega
  ·simp [tmOk]
 rw [h.ok, hk, h1]
 rfl
theorem set_at {α : Type} {S : List α} {i k : Nat} {z : α} (h : k ≠ i) : (S.set i z)[k]? = S[k]? := by
 rw [List.getElem?_set_ne (by omega)]
theorem fn_put (h : R7 13 y tm S G) {i : Nat} (hi : i < S.length) {fl : Int} {tx : ByteArray} {p : Bool} (hp : (sOk y tm S G && ((!kno 9000 S G && (chB S S[i].1 (pmK y tm 9000 fl tx) (pmF y tm 9000 fl tx)).1) && sOk y (tm + 1) (chB S S[i].1 (pmK y tm 9000 fl tx) (pmF y tm 9000 fl tx)).2 G)) = p) :
  sOk y (pik p (tm + 1) tm) (pik p (chB S S[i].1 (pmK y tm 9000 fl tx) (pmF y tm 9000 fl tx)).2 S) (pik p G G) = true ∧ (pik p (chB S S[i].1 (pmK y tm 9000 fl tx) (pmF y tm 9000 fl tx)).2 S).length = S.length ∧ (∀ k, k < S.length → k ≠ i → (pik p (chB S S[i].1 (pmK y tm 9000 fl tx) (pmF y tm 9000 fl tx)).2 S)[k]? = S[k]?) ∧ (p = true → pik p (tm + 1) tm = tm + 1 ∧ kno 9000 (pik p (chB S S[i].1 (pmK y tm 9000 fl tx) (pmF y tm 9000 fl tx)).2 S) (pik p G G) = true) := by
 cases p with
 | false => exact ⟨h.ok, rfl, fun k _ _ => rfl, fun e => by cases e⟩
 | true =>
  simp only [Bool.and_eq_true] at hp
  rw [chB_at (h.at_gid hi) hi rfl] at hp ⊢
  refine ⟨hp.2.2, by show (S.set i _).length = _; rw [List.length_set], fun k _ hki => set_at hki, fun _ => ⟨rfl, ?_⟩⟩
  have hk : pmK y tm 9000 fl tx S[i] = true := hp.2.1.2
  have hm : (S.set i (pmF y tm 9000 fl tx S[i])).any (hasG 9000) = true := by
   refine any_here (i := i) (by rw [List.length_set]; exact hi) ?_
   rw [List.getElem_set_self]
   simp [hasG, pmF, hk, amL, nwm]
  show kno 9000 (S.set i _) G = true
  simp [kno, hm]
theorem tm_mono {t t' u : Int} {L : List M4} (h : tmOk t u L = true) (ht : t ≤ t') : tmOk t' u L = true := by
 simp only [tmOk, Bool.and_eq_true, decide_eq_true_eq, List.all_eq_true] at h ⊢
 refine ⟨by omega, fun m hm => ?_⟩
 have := h.2 m hm
 simp only [tmF, List.all_eq_true, decide_eq_true_eq] at this ⊢
 intro r hr
 have := this r hr
 omega
theorem fn_ren (h : R7 13 y tm S G) {i : Nat} (hi : i < S.length) : (sOk y tm S G && ((chB S S[i].1 (rnK nmFresh S) (rnF y tm nmFresh)).1 && sOk y (tm + 1) (chB S S[i].1 (rnK nmFresh S) (rnF y tm nmFresh)).2 G)) = true ∧ (chB S S[i].1 (rnK nmFresh S) (rnF y tm nmFresh)).2 = S.set i (rnF y tm nmFresh S[i]) ∧ sOk y (tm + 1) (S.set i (rnF y tm nmFresh S[i])) G = true ∧ fidx (isN nmFresh) (S.set i (rnF y tm nmFresh S[i])) 0 = (i : Int) := by
 rw [chB_at (h.at_gid hi) hi rfl]
 obtain ⟨ha, hb, hc, hd, he, hf, hg, hn⟩ := sOk_iff.1 h.ok
 have ht := h.time
 have hno : ∀ x ∈ S, x.2.1 ≠ nmFresh := fun x hx => fresh_not (h.box x hx).nam
 have h1 : rnK nmFresh S S[i] = true := by
  have : S.any (isN nmFresh) = false := List.any_eq_false.2 (fun z hz => by have := hno z hz; simp [isN, this])
  simp [rnK, this]
 have h2 : sOk y (tm + 1) (S.set i (rnF y tm nmFresh S[i])) G = true := by
  have hgs : gids (S.set i (rnF y tm nmFresh S[i])) = gids S := by
   unfold gids
   rw [List.flatMap_def, List.flatMap_def]
   congr 1
   apply List.ext_getElem (by simp)
   intro k h1 h2
   simp only [List.getElem_map, List.getElem_set]
   split
   ·next e => subst e; rfl
   ·rfl
  refine sOk_iff.2 ⟨ha, ⟨by omega, by omega⟩, by rw [List.length_set]; exact hc, hd, by rw [hgs]; exact he, fun x hx => ?_, ?_, ?_⟩
  ·rcases mem_set hx with hx | rfl
   ·have h5 := hf x hx
    exact ⟨h5.1, h5.2.1, tm_mono h5.2.2 (by omega)⟩
   ·have h5 := hf S[i] (List.getElem_mem hi)
    obtain ⟨b1, b2, b3, b4, b5, b6, b7, b8, b9⟩ := bx_iff.1 (show bxOk _ _ _ _ _ _ _ = true from h5.1)
    refine ⟨?_, h5.2.1, ?_⟩
    ·show bxOk S[i].1 nmFresh (tm + 1) y S[i].2.2.2.2.1 S[i].2.2.2.2.2.1 S[i].2.2.2.2.2.2 = true
     refine bx_iff.2 ⟨b1, by decide, ?_, b4, b5, b6, b7, b8, b9⟩
     simp only [stOk, decide_eq_true_eq]; omega
    ·have h6 := tm_mono h5.2.2 (show tm ≤ tm + 1 by omega)
     simp only [tmOk, Bool.and_eq_true] at h6 ⊢
     exact ⟨by simp [rnF], h6.2⟩
  ·rw [List.pairwise_iff_getElem] at hg ⊢
   intro a b h1 h2 hab
   rw [List.length_set] at h1 h2
   have := hg a b h1 h2 hab
   simp only [List.getElem_set]
   split
   ·next e => subst e; rw [if_neg (by omega)]; exact this
   ·split
    ·next e => subst e; exact this
    ·exact this
  ·rw [List.pairwise_iff_getElem] at hn ⊢
   intro a b h1 h2 hab
   rw [List.length_set] at h1 h2
   have := hn a b h1 h2 hab
   simp only [List.getElem_set]
   split
   ·next e => subst e; rw [if_neg (by omega)]; exact (hno _ (List.getElem_mem h2)).symm
   ·split
    ·next e => subst e; exact hno _ (List.getElem_mem h1)
    ·exact this
 refine ⟨by rw [h.ok, h1, h2]; rfl, rfl, h2, ?_⟩
 have e1 : ∀ j (hj : j < i), isN nmFresh ((S.set i (rnF y tm nmFresh S[i]))[j]'(by rw [List.length_set]; omega)) = false := fun j hj => by
  rw [List.getElem_set_ne (by omega)]
  have := hno S[j] (List.getElem_mem (by omega))
  simp [isN, this]
 have e2 : isN nmFresh ((S.set i (rnF y tm nmFresh S[i]))[i]'(by rw [List.length_set]; omega)) = true := by
  rw [List.getElem_set_self]
  simp [isN, rnF]
 rw [fidx_first (S.set i (rnF y tm nmFresh S[i])) i 0 (by rw [List.length_set]; exact hi) e1 e2]
 simp
theorem fn_drop (h : R7 13 y tm S G) {i : Nat} (hi : i < S.length) : (sOk y tm S G && (dbO S S[i].1 && sOk y tm (dbS S S[i].1) (pin S[i].1 G))) = true ∧ sOk y tm (dbS S S[i].1) (pin S[i].1 G) = true ∧ (∀ k (hk : k < S.length), k ≠ i → 0 ≤ fidx (isG S[k].1) (dbS S S[i].1) 0) ∧ fidx (isG S[i].1) (dbS S S[i].1) 0 = -1 ∧ kno S[i].1 (dbS S S[i].1) (pin S[i].1 G) = true := by
 have hz := h.at_gid hi
 have hm := h.most
 have h1 : (sOk y tm S G && (dbO S S[i].1 && sOk y tm (dbS S S[i].1) (pin S[i].1 G))) = true := by
  rw [← dropB_right, h.ok, (db_at hz).1]
  simp
  omega
 have h2 := h1
 simp only [Bool.and_eq_true] at h2
 have hp := List.pairwise_iff_getElem.1 (sOk_pw h.ok)
 rw [(db_at hz).2] at h1 h2 ⊢
 refine ⟨h1, h2.2.2, fun k hk hki => ?_, ?_, ?_⟩
 ·refine fidx_has (x := S[k]) ?_ (by simp [isG]) 0
  rw [List.mem_append]
  by_cases hlt : k < i
  ·exact .inl (List.mem_take_iff_getElem.2 ⟨k, by omega, rfl⟩)
  ·exact .inr (List.mem_drop_iff_getElem.2 ⟨k - (i + 1), by omega, by congr 1; omega⟩)
 ·refine fidx_none (fun x hx => ?_) 0
  rcases List.mem_append.1 hx with hx | hx
  ·obtain ⟨j, hj, e⟩ := List.mem_take_iff_getElem.1 hx
   subst e
   have := hp j i (by omega) hi (by omega)
   have h3 : S[j].1 ≠ S[i].1 := by omega
   simp [isG, h3]
  ·obtain ⟨j, hj, e⟩ := List.mem_drop_iff_getElem.1 hx
   subst e
   have := hp i (i + 1 + j) hi (by omega) (by omega)
   have h3 : S[i + 1 + j].1 ≠ S[i].1 := by omega
   simp [isG, h3]
 ·have : inl S[i].1 (pin S[i].1 G) = true := inl_iff.2 (by unfold pin; simp)
  simp [kno, this]
end
end Go.Proofs.YtkbecgcbheopnaaGreat
