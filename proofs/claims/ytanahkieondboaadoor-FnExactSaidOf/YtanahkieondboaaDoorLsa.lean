/- The law of SaidOf. -/
import Derived.Test.YtanahkieondboaaDoorSdj
import Derived.Test.YtanahkieondboaaDoorSdn
import Derived.Test.YtanahkieondboaaDoorSto2
namespace Go.Proofs.YtanahkieondboaaDoor
open Go.RowKit Go.ChangeMaps

/-- What a call owns has room. -/
theorem OwT.caps {W : World} {B n c : Nat} {a : Option Addr} {gv : Value} {S : List X7} {G : List Int} (h : OwT W B (.slice a n c) gv S G) : Bc W a S := by
  obtain ⟨Y, rfl, h2, -⟩ := h.own
  intro i hi k o ma mn mc e1 e2 j hj k2 o2 fa fn fc e3 e4
  have hi' : i < Y.length := by rw [List.length_map] at hi; exact hi
  have hrow := h2.row
  subst e1
  rcases hrow.2 with ⟨q1, _⟩ | ⟨g, cap, cur, q1, _⟩
  · simp at q1
  · simp only [Value.slice.injEq, Option.some.injEq, Addr.mk.injEq, and_true] at q1
    obtain ⟨⟨rfl, rfl⟩, hnn, _⟩ := q1
    subst hnn
    have hc := (hrow.cellAt (i * 7 + 5) (by first | omega | (rw [yc_len]; omega))).trans (yc_at Y i hi').2.2.2.2.2.1
    rw [show 0 + i * 7 + 5 = i * 7 + 5 by omega, hc] at e2
    simp only [Option.some.injEq] at e2
    obtain ⟨Z, z1, z2, -⟩ := (h2.each Y[i] (List.getElem_mem hi')).1.own
    rw [e2] at z2
    subst e3
    have hz := z2.row
    have hjl : j < Z.length := by
      have e5 : Z.length = Y[i].L.length := by rw [← z1, List.length_map]
      rw [List.getElem_map] at hj
      show j < Z.length
      rw [e5]
      exact hj
    rcases hz.2 with ⟨q1, _⟩ | ⟨g2, cap2, cur2, q1, _⟩
    · simp at q1
    · simp only [Value.slice.injEq, Option.some.injEq, Addr.mk.injEq, and_true] at q1
      obtain ⟨⟨rfl, rfl⟩, hnn, _⟩ := q1
      subst hnn
      have hc2 := (hz.cellAt (j * 4 + 2) (by first | omega | (rw [zc_len]; omega))).trans (zc_at Z j hjl).2.2.1
      rw [show 0 + j * 4 + 2 = j * 4 + 2 by omega, hc2] at e4
      simp only [Option.some.injEq] at e4
      have ho := z2.each Z[j] (List.getElem_mem hjl)
      rw [e4] at ho
      rcases ho.2 with ⟨q1, _⟩ | ⟨g3, cap3, cur3, q1, _, _, q4, _⟩
      · simp only [Value.slice.injEq] at q1
        omega
      · simp only [Value.slice.injEq] at q1
        omega

/-- What a store holds is not too great. -/
theorem smallS {S : List X7} {gn : Nat} (h : ¬ (1048576 : Int) < ((szB S + gn : Nat) : Int)) : S.length ≤ 1048576 ∧ gn ≤ 1048576 ∧ Sb S := by
  unfold szB at h
  refine ⟨by omega, by omega, ?_⟩
  have h2 : toX S ≤ 1048576 := by omega
  clear h
  induction S with
  | nil => intro x hx; cases hx
  | cons a S ih =>
    intro x hx
    have e : toX (a :: S) = szX a + toX S := rfl
    rcases List.mem_cons.1 hx with rfl | hx
    · have h3 : szX x ≤ 1048576 := by omega
      unfold szX szL at h3
      exact ⟨by omega, by omega, sm_of (by omega), by omega⟩
    · exact ih (by omega) x hx

set_option maxHeartbeats 3200000 in
set_option maxRecDepth 100000 in
theorem lawSaidOf_any (y tm : Int) (ba : Option Addr) (bn bc : Nat) (ga : Option Addr) (gn gc : Nat) (S : List X7) (G : List Int) (w : World) (hl : S.length = bn) (hn : (bn : Int) ≤ 9223372036854775807) (hft : FitB S) (hm : Bs 0 w.heap.size w ba S) (hgl : G.length = gn) (hgn : (gn : Int) ≤ 9223372036854775807) (hs : Is 0 w.heap.size w ga G) (hwx : ∀ x ∈ S, x.2.2.2.2.1 ≤ 9223372036854775807 ∧ ∀ m ∈ x.2.2.2.2.2.1, m.2.1 ≤ 9223372036854775807) (htab : Lib.TabIs Tryd.prog w "internal/strconv.uint64pow10" .u64 Lib.pow10Tab) :
    Calls Tryd.prog 4 #[.agg #[.int .i64 y, .int .i64 tm, .slice ba bn bc, .slice ga gn gc]] w fun e w' => e = .returned (.bool true) ∧ Below w.heap.size w w' := by
  obtain ⟨W0, hW0⟩ : ∃ W0, w.alloc (.cells #[.int .i64 y, .int .i64 tm, .slice ba bn bc, .slice ga gn gc] 27) = W0 := ⟨_, rfl⟩
  have a0 : Sx W0 w.heap.size 27 y tm (.slice ba bn bc) (.slice ga gn gc) := by subst hW0; exact Sx.new w _ y tm _ _
  have b0 : Below w.heap.size w W0 := by subst hW0; exact bpush (bre _) _
  have c0 := a0.cells
  have A0 := hid a0
  have B0 := hid b0
  have HWX := hid hwx
  have HTAB := hid htab
  have HM := hid hm
  have HS' := hid hs
  have HF := hid hft
  have HL := hid hl
  have HGL := hid hgl
  have HN := hid hn
  have HGN := hid hgn
  clear a0 b0 hm hs hft hl hgl hn hgn hwx htab
  go_enter Tryd.func4, Tryd.ntmps4
  go_wp2_with fail
  clear hW0
  refine (szStore_any 0 w.heap.size y tm ba bn bc ga gn gc S _ HL.out HN.out HF.out (HM.out.later B0.out) HGN.out).mono ?_; rintro e w1 ⟨rfl, hb1⟩
  have A1 := hid (A0.out.later hb1)
  have B1 := hid (btr B0.out hb1)
  have c0 := A1.out.cells
  clear hb1 A0 B0
  by_cases hbig : (1048576 : Int) < ((szB S + gn : Nat) : Int)
  · rw [szr_over hbig]
    clear hbig
    go_wp2
    go_ret
    exact ⟨rfl, B1.out⟩
  obtain ⟨s2, s3, s4⟩ := smallS hbig
  have HTL : Hid (tml S ≤ 1048576) := hid (by have h9 := tml_sz S; omega)
  obtain ⟨q, hq⟩ : ∃ q, szr 1048576 (szB S + gn) = q := ⟨_, rfl⟩
  have h0 : ¬ q < 0 := by rw [← hq, szr_fits hbig]; omega
  rw [hq]
  have S2 : Hid (bn ≤ 1048576) := by show _ ≤ _; rw [← HL.out]; exact s2
  have S3 := hid s3
  have S4 := hid s4
  clear hq hbig s2 s3 s4
  go_wp2_with fail
  refine (toStore_any 0 w.heap.size 0 w.heap.size y tm ba bn bc ga gn gc S G _ HL.out S2.out S4.out (HM.out.later B1.out) HGL.out S3.out (HS'.out.later B1.out)).mono ?_; rintro e w2 ⟨km, kg, rfl, how, hb2⟩
  have TG2 : Hid (Tg w2 w1.heap.size w2.heap.size (some ⟨km, 0, none⟩) bn bn (some ⟨kg, 0, none⟩) gn gn S G) := hid ⟨HL.out, S2.out, S4.out, how.reads.2.2.1, (fun e => by cases e), HGL.out, S3.out, how.reads.2.2.2, (fun e => by cases e)⟩
  have A2 := hid (A1.out.later hb2)
  have B2 := hid (btr B1.out hb2)
  have c0 := A2.out.cells
  clear hb2 A1 B1 how
  go_wp2_with fail
  refine (specSaidOf_any _ _ y tm (some ⟨km, 0, none⟩) bn bn (some ⟨kg, 0, none⟩) gn gn S G _ TG2.out HWX.out).mono ?_; rintro e w3 ⟨rfl, hb3⟩
  have A3 := hid (A2.out.later hb3)
  have B3 := hid (btr B2.out hb3)
  have c0 := A3.out.cells
  clear hb3 A2 B2 TG2
  obtain ⟨r, hr⟩ : ∃ r : ByteArray, sdo S = r := ⟨_, rfl⟩
  rw [hr]
  have HR := hid hr
  clear hr
  go_wp2_with fail
  refine (toStore_any 0 w.heap.size 0 w.heap.size y tm ba bn bc ga gn gc S G _ HL.out S2.out S4.out (HM.out.later B3.out) HGL.out S3.out (HS'.out.later B3.out)).mono ?_; rintro e w4 ⟨km4, kg4, rfl, how, hb4⟩
  have R1 := hid how.reads.2.2.1
  have R2 := hid how.reads.2.2.2
  have HC4 := hid (OwT.caps how)
  have A4 := hid (A3.out.later hb4)
  have B4 := hid (btr B3.out hb4)
  have c0 := A4.out.cells
  clear hb4 A3 B3 how
  have xx : (!r.toList == r.toList) = false := by simp
  go_wp2_with fail
  have b5 : Below w4.heap.size w4 (w4.alloc (.cells #[.int .i64 y, .int .i64 tm, .slice (some ⟨km4, 0, none⟩) bn bn, .slice (some ⟨kg4, 0, none⟩) gn gn] 32)) := bpush (bre _) _
  have hsz4 : w4.heap.size ≤ (w4.alloc (.cells #[.int .i64 y, .int .i64 tm, .slice (some ⟨km4, 0, none⟩) bn bn, .slice (some ⟨kg4, 0, none⟩) gn gn] 32)).heap.size := b5.size
  refine (implSaidOf_any _ _ y tm (some ⟨km4, 0, none⟩) bn bn (some ⟨kg4, 0, none⟩) gn gn S G _ ⟨HL.out, S2.out, S4.out, R1.out.later b5, (fun e => by cases e), HGL.out, S3.out, R2.out.later b5, (fun e => by cases e)⟩ (HC4.out.same R1.out b5.block) HTL.out HWX.out (tab_later (btr B4.out b5) HTAB.out)).mono ?_; rintro e w5 ⟨rfl, hb5⟩
  rw [HR.out]
  have X5 := hid ((Sx.new w4 32 y tm (.slice (some ⟨km4, 0, none⟩) bn bn) (.slice (some ⟨kg4, 0, none⟩) gn gn)).later hb5)
  have R5 := hid ((R1.out.later b5).later hb5)
  have Q5 := hid ((R2.out.later b5).later hb5)
  have A5 := hid (A4.out.later (btr b5 hb5))
  have B5 := hid (btr (btr B4.out b5) hb5)
  clear b5 hb5 A4 B4 R1 R2 c0 hsz4 HC4
  obtain ⟨kx, hkx⟩ : ∃ kx, w4.heap.size = kx := ⟨_, rfl⟩
  rw [hkx] at X5 ⊢
  have HS : Hid (∀ W, Below w5.heap.size w5 W → (W.cell? ⟨w.heap.size, 0, none⟩ = some (.int .i64 y) ∧ W.cell? ⟨w.heap.size, 1, none⟩ = some (.int .i64 tm) ∧ W.cell? ⟨w.heap.size, 2, none⟩ = some (.slice ba bn bc) ∧ W.cell? ⟨w.heap.size, 3, none⟩ = some (.slice ga gn gc)) ∧ (W.cell? ⟨kx, 0, none⟩ = some (.int .i64 y) ∧ W.cell? ⟨kx, 1, none⟩ = some (.int .i64 tm) ∧ W.cell? ⟨kx, 2, none⟩ = some (.slice (some ⟨km4, 0, none⟩) bn bn) ∧ W.cell? ⟨kx, 3, none⟩ = some (.slice (some ⟨kg4, 0, none⟩) gn gn))) := fun W h => ⟨(A5.out.later h).cells, (X5.out.later h).cells⟩
  clear hkx
  go_wp2_with fail
  refine wp_region_noPanic ?_
  refine wp_region_held_drew (S := (fun W => (W.cell? ⟨w.heap.size, 0, none⟩ = some (.int .i64 y) ∧ W.cell? ⟨w.heap.size, 1, none⟩ = some (.int .i64 tm) ∧ W.cell? ⟨w.heap.size, 2, none⟩ = some (.slice ba bn bc) ∧ W.cell? ⟨w.heap.size, 3, none⟩ = some (.slice ga gn gc)) ∧ (W.cell? ⟨kx, 0, none⟩ = some (.int .i64 y) ∧ W.cell? ⟨kx, 1, none⟩ = some (.int .i64 tm) ∧ W.cell? ⟨kx, 2, none⟩ = some (.slice (some ⟨km4, 0, none⟩) bn bn) ∧ W.cell? ⟨kx, 3, none⟩ = some (.slice (some ⟨kg4, 0, none⟩) gn gn)))) (by kernel_rfl) (HS.out _ (bdr (bre _))) (fun hHeld => ?_)
  refine tk 0 ?_
  refine tk 1 ?_
  clear hHeld
  refine ry 2 (fun K hK => ?_)
  go_simp
  refine (toStore_any 0 w.heap.size 0 w.heap.size y tm ba bn bc ga gn gc S G _ HL.out S2.out S4.out (HM.out.later (btr B5.out (by repeat (first | exact bre _ | refine bdr ?_ | refine btr ?_ (by assumption) | refine bpush ?_ _)))) HGL.out S3.out (HS'.out.later (btr B5.out (by repeat (first | exact bre _ | refine bdr ?_ | refine btr ?_ (by assumption) | refine bpush ?_ _))))).mono ?_; rintro e w6 ⟨km6, kg6, rfl, how6, hb6⟩
  have R6 := hid how6.reads.2.2.1
  have Q6 := hid how6.reads.2.2.2
  go_wp2_with fail
  refine hK.out _ _ (HS.out _ (by repeat (first | exact bre _ | refine bdr ?_ | refine btr ?_ (by assumption) | refine bpush ?_ _))) (fun hHeld => ?_)
  clear hK K
  try simp only [Act.put, List.setIfInBounds_toArray, List.set_cons_zero, List.set_cons_succ]
  clear hHeld
  refine ry 3 (fun K hK => ?_)
  go_simp
  refine (eqStore_any _ _ _ _ _ _ _ _ y tm _ bn _ _ gn _ _ _ _ _ S G _ HL.out S2.out S4.out (R5.out.later (by repeat (first | exact bre _ | refine bdr ?_ | refine btr ?_ (by assumption) | refine bpush ?_ _))) R6.out HGL.out S3.out (Q5.out.later (by repeat (first | exact bre _ | refine bdr ?_ | refine btr ?_ (by assumption) | refine bpush ?_ _))) Q6.out).mono ?_; rintro e w7 ⟨rfl, hb7⟩
  go_wp2_with fail
  refine hK.out _ _ (HS.out _ (by repeat (first | exact bre _ | refine bdr ?_ | refine btr ?_ (by assumption) | refine bpush ?_ _))) (fun hHeld => ?_)
  clear hK K
  try simp only [Act.put, List.setIfInBounds_toArray, List.set_cons_zero, List.set_cons_succ]
  refine tk 4 ?_
  refine wpAnyH_done (by kernel_rfl) ?_ _
  refine NoPanic.normal ?_
  clear hHeld
  go_wp2
  go_ret
  exact ⟨rfl, btr B5.out (by repeat (first | exact bre _ | refine bdr ?_ | refine btr ?_ (by assumption) | refine bpush ?_ _))⟩
end Go.Proofs.YtanahkieondboaaDoor
