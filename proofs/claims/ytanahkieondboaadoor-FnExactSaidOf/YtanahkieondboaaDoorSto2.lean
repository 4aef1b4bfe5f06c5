/- A store as the laws hand it over. -/
import Derived.Test.YtanahkieondboaaDoorSeq
import Derived.Test.YtanahkieondboaaDoorSapp
namespace Go.Proofs.YtanahkieondboaaDoor
open Go.RowKit Go.ChangeMaps

set_option maxHeartbeats 1600000 in
set_option maxRecDepth 100000 in
theorem toStore_any (lo hh lo' hh' : Nat) (y tm : Int) (ba : Option Addr) (bn bc : Nat) (ga : Option Addr) (gn gc : Nat) (S : List X7) (G : List Int) (w : World) (hl : S.length = bn) (hn : bn ≤ 1048576) (hsb : Sb S) (hm : Bs lo hh w ba S) (hg : G.length = gn) (hgn : gn ≤ 1048576) (hs : Is lo' hh' w ga G) :
    Calls Tryd.prog 9 #[.agg #[.int .i64 y, .int .i64 tm, .slice ba bn bc, .slice ga gn gc]] w fun e w' => ∃ km kg, e = .returned (.agg #[.int .i64 y, .int .i64 tm, .slice (some ⟨km, 0, none⟩) bn bn, .slice (some ⟨kg, 0, none⟩) gn gn]) ∧
      OwT w' w.heap.size (.slice (some ⟨km, 0, none⟩) bn bn) (.slice (some ⟨kg, 0, none⟩) gn gn) S G ∧ Below w.heap.size w w' := by
  obtain ⟨W0, hW0⟩ : ∃ W0, (((w.alloc (.cells #[.int .i64 y, .int .i64 tm, .slice ba bn bc, .slice ga gn gc] 27)).alloc (.cells #[.int .i64 0, .int .i64 0, .slice none 0 0, .slice none 0 0] 32)).alloc (.cells #[.int .i64 0, .int .i64 0, .slice none 0 0, .slice none 0 0] 32)) = W0 := ⟨_, rfl⟩
  obtain ⟨a0, a1, a2, b0, s0⟩ := three_stores w _ _ _ _ _ _ _ _ _ _ _ _ _ _ _ W0 hW0
  have A0 := hid a0
  have A1 := hid a1
  have A2 := hid a2
  have B0 := hid b0
  have S0 := hid s0
  have HM := hid hm
  have HS := hid hs
  have c0 := a0.cells
  have c2 := a2.cells
  have f2 := a2.loose
  clear a0 a1 a2 b0 s0 hm hs
  go_enter Tryd.func9, Tryd.ntmps9
  go_wp2_with fail
  clear hW0
  obtain ⟨W2, hW2⟩ : ∃ W2, (W0.setCell ⟨w.heap.size + 1 + 1, 0, none⟩ (.int .i64 y)).setCell ⟨w.heap.size + 1 + 1, 1, none⟩ (.int .i64 tm) = W2 := ⟨_, rfl⟩
  rw [hW2]
  have G1 : W0.grownBy W2 (some (w.heap.size + 1 + 1)) := by subst hW2; exact wst (wst (wre _ _) _ _) _ _
  have k2 := (A2.out.s0 y).s1 tm
  rw [hW2] at k2
  have K0 := hid (A0.out.off G1 (by omega))
  have K1 := hid (A1.out.off G1 (by omega))
  have K2 := hid k2
  have B1 : Hid (Below w.heap.size w W2) := B0.out.trans (below_of_grown G1 (by omega) (by have := S0.out; omega))
  have S1 : Hid (w.heap.size + 1 + 1 + 1 ≤ W2.heap.size) := by show _ ≤ _; have h1 := S0.out; have h2 := G1.size; omega
  clear hW2 c0 c2 f2 k2 G1 A0 A1 A2 B0 S0
  refine (toBoxS_any lo hh ba bn bc S W2 hl hn hsb (HM.out.later B1.out)).mono ?_; rintro e w2 ⟨rfl, ⟨Y, hY, hown⟩, hb2⟩
  have A0 := hid (K0.out.later hb2)
  have A1 := hid (K1.out.later hb2)
  have A2 := hid (K2.out.later hb2)
  have c0 := A0.out.cells
  have c2 := A2.out.cells
  have f2 := A2.out.loose
  have B2 := hid (btr B1.out hb2)
  have HO := hid hown
  have HY := hid hY
  have S2 := hid (Nat.le_trans S1.out hb2.size)
  obtain ⟨km, hkm⟩ : ∃ km, W2.heap.size = km := ⟨_, rfl⟩
  rw [hkm] at HO ⊢
  have HKM : Hid (w.heap.size + 1 + 1 + 1 ≤ km) := by show _ ≤ _; rw [← hkm]; exact S1.out
  clear hb2 K0 K1 K2 B1 S1 hY hown hkm
  go_wp2_with fail
  obtain ⟨W3, hW3⟩ : ∃ W3, w2.setCell ⟨w.heap.size + 1 + 1, 2, none⟩ (.slice (some ⟨km, 0, none⟩) bn bn) = W3 := ⟨_, rfl⟩
  rw [hW3]
  have G1 : w2.grownBy W3 (some (w.heap.size + 1 + 1)) := by subst hW3; exact wst (wre _ _) _ _
  have k2 := A2.out.s2 (.slice (some ⟨km, 0, none⟩) bn bn)
  rw [hW3] at k2
  have K1 := hid (A1.out.off G1 (by omega))
  have K2 := hid k2
  have O1 := hid (HO.out.grown G1 (by have := HKM.out; omega))
  have B1 : Hid (Below w.heap.size w W3) := B2.out.trans (below_of_grown G1 (by omega) (by have := S2.out; omega))
  have S1 : Hid (w.heap.size + 1 + 1 + 1 ≤ W3.heap.size) := by show _ ≤ _; have h1 := S2.out; have h2 := G1.size; omega
  clear hW3 c0 c2 f2 k2 G1 A0 A1 A2 B2 S2 HO
  refine (toIntS_any lo' hh' ga gn gc G W3 hg hgn (HS.out.later B1.out)).mono ?_; rintro e w3 ⟨rfl, hown, hb3⟩
  have A1 := hid (K1.out.later hb3)
  have A2 := hid (K2.out.later hb3)
  have c2 := A2.out.cells
  have f2 := A2.out.loose
  have c1 := A1.out.cells
  have f1 := A1.out.loose
  have B0 := hid (btr B1.out hb3)
  have HO := hid (O1.out.later hb3)
  have HI := hid hown
  have HD := hid (Dj.later O1.out.row hown (Nat.le_refl _))
  have HE : Hid (∀ z ∈ Y, ∀ j, Value.ownBlock (.slice (some ⟨W3.heap.size, 0, none⟩) gn gn) = some j → j < z.lo ∨ z.hi ≤ j) := fun z hz j hj => .inr (Nat.le_trans (O1.out.each z hz).1.top (hown.lt j hj).1)
  obtain ⟨kg, hkg⟩ : ∃ kg, W3.heap.size = kg := ⟨_, rfl⟩
  rw [hkg] at HI HD HE ⊢
  have HKG : Hid (w.heap.size + 1 + 1 + 1 ≤ kg) := by show _ ≤ _; rw [← hkg]; exact S1.out
  clear hb3 K1 K2 B1 S1 hown O1 hkg
  go_wp2
  have e1 : w3.grownBy (w3.setCell ⟨w.heap.size + 1 + 1, 3, none⟩ (.slice (some ⟨kg, 0, none⟩) gn gn)) (some (w.heap.size + 1 + 1)) := wst (wre _ _) _ _
  have k1 := A1.out.off e1 (by omega)
  have e2 := put4_grown (w3.setCell ⟨w.heap.size + 1 + 1, 3, none⟩ (.slice (some ⟨kg, 0, none⟩) gn gn)) (w.heap.size + 1) y tm (.slice (some ⟨km, 0, none⟩) bn bn) (.slice (some ⟨kg, 0, none⟩) gn gn)
  have d1 := (k1.put4 y tm (.slice (some ⟨km, 0, none⟩) bn bn) (.slice (some ⟨kg, 0, none⟩) gn gn)).cells
  unfold put4 at d1 e2
  refine bodyPost_ret (v := .agg #[.int .i64 y, .int .i64 tm, .slice (some ⟨km, 0, none⟩) bn bn, .slice (some ⟨kg, 0, none⟩) gn gn]) (by simp [results, Tryd.results9, go_sem, d1]) rfl ⟨km, kg, rfl, ⟨Y, HY.out, ?_, ?_, HD.out, HE.out⟩, ?_⟩
  · have h1 := HKM.out
    exact ((HO.out.grown e1 (by omega)).grown e2 (by omega)).base (by omega)
  · have h1 := HKG.out
    exact own_base (OwI.grown (OwI.grown HI.out e1 (by omega)) e2 (by omega)) (by omega)
  · have h1 := B0.out.size
    have h2 := e1.size
    exact B0.out.trans ((below_of_grown e1 (by omega) (by omega)).trans (below_of_grown e2 (by omega) (by omega)))
end Go.Proofs.YtanahkieondboaaDoor
