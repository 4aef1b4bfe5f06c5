/- Lmk. -/

import Derived.Test.YtmpcmllfgogegaaGreatxLhk
namespace Go.Proofs.YtmpcmllfgogegaaGreat
open Go.RowKit Go.ChangeMaps
set_option maxHeartbeats 800000 in
set_option maxRecDepth 100000 in
theorem markBoxK_any (k : Nat) (hk0 : 0 < k) (B hi : Nat) (g : Int) (nm : ByteArray) (t b nx : Int) (ma : Option Addr) (mn mc : Nat) (ga : Option Addr) (gn gc : Nat) (L : List M4) (G : List Int) (w : World) (hown : OwH w B hi (.slice ma mn mc) (.slice ga gn gc) L G) (hl : L.length = mn) (hn : mn ≤ 1048576) (hsm : Sm L) (hgl : G.length = gn) (hgn : gn ≤ 1048576) (hfz : k + 3 * fz L ≤ 4194304) :
  Calls Tryz.prog 33 #[.agg #[.int .i64 g, .string nm, .int .i64 t, .int .i64 b, .int .i64 nx, .slice ma mn mc, .slice ga gn gc], .int .i64 (k : Int)] w fun e w' => e = .returned (.int .i64 ((k + 3 * fz L + gn : Nat) : Int)) ∧ Chg (fun j => B ≤ j ∧ j < hi) w w' := by
 obtain ⟨Z, rfl, hz, hii, hd, hdz, hv1, hv2, hv3⟩ := hown
 have hlt : ∀ j, (Value.ownBlock (.slice ma mn mc) = some j ∨ ∃ z ∈ Z, z.2.2.1.ownBlock = some j) → j < w.heap.size := by
  rintro j (h | ⟨z, hzz, h⟩)
  ·exact (hz.row.lt j h).2
  ·exact ((hz.each z hzz).lt j h).2
 have HLT := hid hlt
 have HV2 := hid hv2
 obtain ⟨W0, hW0⟩ : ∃ W0, w.alloc (.cells #[.int .i64 g, .string nm, .int .i64 t, .int .i64 b, .int .i64 nx, .slice ma mn mc, .slice ga gn gc] 29) = W0 := ⟨_, rfl⟩
 have a0 : Bx W0 w.heap.size 29 g nm t b nx (.slice ma mn mc) (.slice ga gn gc) := by subst hW0; exact Bx.new w _ g nm t b nx _ _
 have b0 : Below w.heap.size w W0 := by subst hW0; exact bpush (bre _) _
 have c0 := a0.cells
 have HC := markMS_any (fun j => Value.ownBlock (.slice ma mn mc) = some j ∨ ∃ z ∈ Z, z.2.2.1.ownBlock = some j) B ma mn mc k Z W0 (hz.later b0) (by rw [← hl, List.length_map]) hn hk0 (by rw [kz_fz]; exact hfz) hsm (fun j hj => .inl hj) (fun z hz j hj => .inr ⟨z, hz, hj⟩)
 have hbl : ∀ j, (Value.ownBlock (.slice ma mn mc) = some j ∨ ∃ z ∈ Z, z.2.2.1.ownBlock = some j) → B ≤ j ∧ j < hi := by
  rintro j (h | ⟨z, hzz, h⟩)
  ·exact ⟨(hz.row.lt j h).1, hv1 j h⟩
  ·exact ⟨((hz.each z hzz).lt j h).1, hv3 z hzz j h⟩
 have HBL := hid hbl
 have HCC := hid HC
 have HZ := hid hz
 have HI := hid hii
 have HD := hid hd
 have HDZ := hid hdz
 have A0 := hid a0
 have B0 := hid b0
 have HGL := hid hgl
 have HKZ := hid (kz_fz k Z)
 obtain ⟨q, hq⟩ : ∃ q, kz k Z = q := ⟨_, rfl⟩
 have hqb : q ≤ 4194304 := by rw [← hq, kz_fz]; exact hfz
 have HQ := hid hq
 clear hbl HC hz hii hd hdz a0 b0 hgl hsm hfz hl hlt hv1 hv2 hv3
 go_enter Tryz.func33, Tryz.ntmps33
 go_wp2_with fail
 clear hW0
 refine HCC.out.mono ?_; rintro e w1 ⟨rfl, ho1, hc1⟩
 rw [hq]
 clear hq
 have ho2 : OwI w1 B (.slice ga gn gc) G := row_chg (own_later HI.out B0.out) hc1 (fun j hj => by
   rintro (h | ⟨z, hzz, h⟩)
   · exact HD.out j hj h
   · exact HDZ.out z hzz j hj h)
 have x1 : Bx w1 w.heap.size 29 g nm t b nx (.slice ma mn mc) (.slice ga gn gc) := (hc1.block _ A0.out.lt (fun e => by have h1 := HLT.out _ e; omega)).trans A0.out
 have k1 := x1.cells
 have HC1 := hid hc1
 have HO2 := hid ho2
 clear hc1 ho1 ho2 c0 x1
 go_wp2_with fail
 refine (markIS_any B ga gn gc q G w1 HO2.out HGL.out hgn (by omega)).mono ?_; rintro e w2 ⟨rfl, ho3, hg3⟩
 have HG3 := hid hg3
 clear ho3 hg3
 have HCH : Hid (Chg (fun j => B ≤ j ∧ j < hi) w w2) := by
  show Chg _ _ _
  refine Chg.trans (Chg.trans (Chg.of_below B0.out) (HC1.out.mono HBL.out)) (Chg.of_grown HG3.out (fun j hj => ⟨(HI.out.lt j hj).1, HV2.out j hj⟩))
 go_wp2
 go_ret
 exact ⟨by rw [← HKZ.out, HQ.out]; rfl, HCH.out⟩
def lfn (o : Option M4) : Nat := match o with | some m => 1 + m.2.2.1.length | none => 0
def sfn (A : List M4) (gs : List Int) : Nat := gs.foldr (fun g s => lfn (fnd g A) + s) 0
theorem sfn_cons_no (m : M4) (A : List M4) : ∀ gs : List Int, (∀ g ∈ gs, m.1 ≠ g) → sfn (m :: A) gs = sfn A gs
 | [], _ => rfl
 | g :: gs, h => by
  show lfn (fnd g (m :: A)) + sfn (m :: A) gs = lfn (fnd g A) + sfn A gs
  rw [sfn_cons_no m A gs (fun x hx => h x (by simp [hx])), fnd, if_neg (h g (by simp))]
theorem sfn_cons (m : M4) (A : List M4) : ∀ gs : List Int, gs.Pairwise (· < ·) → sfn (m :: A) gs ≤ 1 + m.2.2.1.length + sfn A gs
 | [], _ => Nat.zero_le _
 | g :: gs, h => by
  show lfn (fnd g (m :: A)) + sfn (m :: A) gs ≤ 1 + m.2.2.1.length + (lfn (fnd g A) + sfn A gs)
  rw [List.pairwise_cons] at h
  by_cases e : m.1 = g
  ·rw [sfn_cons_no m A gs (fun x hx hm => by have := h.1 x hx; omega), fnd, if_pos e]
   show 1 + m.2.2.1.length + _ ≤ _
   omega
  ·have := sfn_cons m A gs h.2
   rw [fnd, if_neg e]
   omega
theorem sfn_nil (gs : List Int) : sfn [] gs = 0 := by
 induction gs with
 | nil => rfl
 | cons g gs ih => show lfn (fnd g []) + sfn [] gs = 0; rw [ih]; rfl
theorem fz_cons (m : M4) (A : List M4) : fz (m :: A) = 1 + m.2.2.1.length + fz A := rfl
theorem sfn_fz (A : List M4) (gs : List Int) (h : gs.Pairwise (· < ·)) : sfn A gs ≤ fz A := by
 induction A with
 | nil => rw [sfn_nil]; exact Nat.zero_le _
 | cons m A ih =>
  have := sfn_cons m A gs h
  rw [fz_cons]
  omega
theorem fz_filt (f : M4 → Bool) (L : List M4) : fz (L.filter f) + fz (L.filter (fun x => !f x)) = fz L := by
 induction L with
 | nil => rfl
 | cons m L ih =>
  rw [fz_cons]
  cases hf : f m
  ·rw [List.filter_cons_of_neg (by simp [hf]), List.filter_cons_of_pos (by simp [hf]), fz_cons]
   omega
  ·rw [List.filter_cons_of_pos hf, List.filter_cons_of_neg (by simp [hf]), fz_cons]
   omega
theorem fz_ptm (m : M4) (L : List M4) : fz (ptm m L) = 1 + m.2.2.1.length + fz L := by
 unfold ptm
 rw [fz_app, fz_cons]
 have h := fz_filt (fun y => decide (y.2.1 ≤ m.2.1)) L
 have e : L.filter (fun y => !decide (y.2.1 ≤ m.2.1)) = L.filter (fun y => decide (m.2.1 < y.2.1)) := by
  refine List.filter_congr (fun y _ => ?_)
  by_cases hh : y.2.1 ≤ m.2.1
  ·simp [hh]
  ·simp [hh]; omega
 rw [e] at h
 omega
theorem gm_lfn {A B : List M4} {g : Int} (h : ¬ (fnd g A = none ∧ fnd g B = none)) : 1 + (gm A B g).2.2.1.length ≤ lfn (fnd g A) + lfn (fnd g B) := by
 unfold gm
 cases h1 : fnd g A with
 | none =>
  cases h2 : fnd g B with
  | none => exact absurd ⟨h1, h2⟩ h
  | some y => show 1 + y.2.2.1.length ≤ _; simp [lfn]
 | some x =>
  cases h2 : fnd g B with
  | none => show 1 + x.2.2.1.length ≤ _; simp [lfn]
  | some y =>
   show 1 + (jml x.1 x.2.2.1 y.1 y.2.2.1).length ≤ (1 + x.2.2.1.length) + (1 + y.2.2.1.length)
   unfold jml
   split
   ·rw [jl_len]; omega
   ·omega
theorem fz_fold (A B : List M4) (GA GB : List Int) (na nb : Int) : ∀ (gs : List Int) (s : List M4 × Int), (∀ g ∈ gs, ¬ (fnd g A = none ∧ fnd g B = none)) → fz (gs.foldl (jst A B GA GB na nb) s).1 ≤ fz s.1 + sfn A gs + sfn B gs
 | [], s, _ => by show fz s.1 ≤ fz s.1 + 0 + 0; omega
 | g :: gs, s, hh => by
  rw [List.foldl_cons]
  have h1 := fz_fold A B GA GB na nb gs (jst A B GA GB na nb s g) (fun x hx => hh x (by simp [hx]))
  have h2 : fz (jst A B GA GB na nb s g).1 ≤ fz s.1 + lfn (fnd g A) + lfn (fnd g B) := by
   have h3 := gm_lfn (hh g (by simp))
   unfold jst
   split
   ·omega
   ·split
    ·show fz (ptm _ _) ≤ _
     rw [fz_ptm]; omega
    ·show fz (ptm _ _) ≤ _
     rw [fz_ptm]
     show 1 + (gm A B g).2.2.1.length + _ ≤ _
     omega
  show _ ≤ fz s.1 + (lfn (fnd g A) + sfn A gs) + (lfn (fnd g B) + sfn B gs)
  omega
theorem fz_jms (A B : List M4) (GA GB : List Int) (na nb : Int) : fz (jms A B GA GB na nb (asl (A.map (·.1) ++ B.map (·.1)))).1 ≤ fz A + fz B := by
 have h1 := fz_fold A B GA GB na nb (asl (A.map (·.1) ++ B.map (·.1))) ([], mx8 na nb) (fun g hg => gids_have hg)
 have h2 := sfn_fz A _ (asl_asc (A.map (·.1) ++ B.map (·.1)))
 have h3 := sfn_fz B _ (asl_asc (A.map (·.1) ++ B.map (·.1)))
 have h4 : fz (([], mx8 na nb) : List M4 × Int).1 = 0 := rfl
 unfold jms
 omega
end Go.Proofs.YtmpcmllfgogegaaGreat
