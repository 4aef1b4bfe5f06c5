/- The shelf of a list of mails. -/
import Derived.Test.YtfmacodnjhegcamGreatShelf
namespace Go.Proofs.YtfmacodnjhegcamGreat
open Go.RowKit Go.ChangeMaps

theorem shl_take {L : List M4} {i : Nat} (h : i < L.length) : shl (L.take (i + 1)) = pt (shl (L.take i)) L[i] := by
  unfold shl
  rw [List.take_succ_eq_append_getElem h, List.foldl_append]
  rfl
theorem make_shelf (n : Nat) (W : World) : (Instr.makeMap 55 (some (.int .i64 (n : Int)))).run Tryz.prog W = .ok (.map (some W.heap.size)) (W.alloc (.map #[] 0)) := by
  simp only [Instr.makeMap, Sem.run_bind, run_underlying Tryz.underlying55, Result.andThen]
  rfl

set_option maxHeartbeats 1600000 in
set_option maxRecDepth 100000 in
theorem shelfOf_any (lo hi : Nat) (ma : Option Addr) (mn mc : Nat) (L : List M4) (w : World) (hl : L.length = mn) (hn : mn ≤ 1048576) (hsm : Sm L) (hm : Ms lo hi w ma L) :
    Calls Tryz.prog 25 #[.slice ma mn mc] w fun e w' => e = .returned (.map (some w.heap.size)) ∧ (∃ E c, E.map mde = shl L ∧ OwMp w' w.heap.size w.heap.size E c) ∧ Below w.heap.size w w' := by
  have hmk := make_shelf mn
  have HR := hid hm
  have HL := hid hl
  have HSM := hid hsm
  clear hm hl hsm
  go_enter Tryz.func25, Tryz.ntmps25
  go_wp2
  clear hmk
  go_loopw [11] (fun iv wr => ∃ i : Nat, i ≤ mn ∧ iv = .int .i64 (i : Int) ∧ (∃ E c, E.map mde = shl (L.take i) ∧ OwMp wr w.heap.size w.heap.size E c) ∧ Below w.heap.size w wr) (fun iv _ => mn - (intOf iv).toNat)
  case atStart => exact ⟨0, Nat.zero_le _, rfl, ⟨[], 0, rfl, OwMp.made w⟩, bpush (bre _) _⟩
  case round =>
    obtain ⟨i, hi, rfl, ⟨E, c, hE, hmp⟩, hb⟩ := hrel
    have HMP := hid hmp
    have HE := hid hE
    have HB := hid hb
    have hsz := hb.size
    have HSZ := hid hsz
    clear hmp hE hsz
    by_cases hlt : i < mn
    · have hil : i < L.length := by rw [HL.out]; exact hlt
      obtain ⟨k, o, fa, fc, rfl, hk, ⟨c0, c1, c2, c3⟩, hrs, hz0⟩ := (HR.out.later hb).at hil
      have hmem := HSM.out L[i] (List.getElem_mem hil)
      have hst := shl_take hil
      obtain ⟨p, hp⟩ : ∃ p, L[i] = p := ⟨_, rfl⟩
      rw [hp] at c0 c1 c2 c3 hrs hmem hst
      obtain ⟨g, u, l, t⟩ := p
      have HP := hid hp
      have HRS := hid hrs
      have HMM := hid hmem
      have HZ0 := hid hz0
      have HST := hid hst
      obtain ⟨m, hm⟩ : ∃ m, l.length = m := ⟨_, rfl⟩
      dsimp only at c0 c1 c2 c3
      rw [hm] at c2
      have HM := hid hm
      have hI : (0 : Int) ≤ (i : Int) ∧ (i : Int) < (mn : Int) := by omega
      clear hp hrs hmem hm hz0 hst hb
      go_wp2_with fail
      obtain ⟨W1, hW1⟩ : ∃ W1, wr.alloc (.cells #[.int .i64 g, .int .i64 u, .slice fa m fc, .string t] 51) = W1 := ⟨_, rfl⟩
      have A1 : Hid (Mg W1 wr.heap.size 51 g u (.slice fa m fc) t) := by subst hW1; exact Mg.new _ _ _ _ _ _
      have B1 : Hid (Below wr.heap.size wr W1) := by subst hW1; exact bpush (bre _) _
      rw [hW1]
      have HS : Hid (∀ W, Below W1.heap.size W1 W → W.cell? ⟨wr.heap.size, 0, none⟩ = some (.int .i64 g) ∧ W.cell? ⟨wr.heap.size, 1, none⟩ = some (.int .i64 u) ∧ W.cell? ⟨wr.heap.size, 2, none⟩ = some (.slice fa m fc) ∧ W.cell? ⟨wr.heap.size, 3, none⟩ = some (.string t)) := fun W h => (A1.out.later h).cells
      clear c0 c1 c2 c3 hW1
      go_region_held3 (fun W => W.cell? ⟨wr.heap.size, 0, none⟩ = some (.int .i64 g) ∧ W.cell? ⟨wr.heap.size, 1, none⟩ = some (.int .i64 u) ∧ W.cell? ⟨wr.heap.size, 2, none⟩ = some (.slice fa m fc) ∧ W.cell? ⟨wr.heap.size, 3, none⟩ = some (.string t))
        ((first | exact HS.out _ (bdr (bre _)) | exact HS.out _ (btr (bdr (bre _)) hb2) | exact HS.out _ (bre _) | exact B2'.out))
        ((go_at_call 52; refine (copyOf_any g u fa m fc l t _ HM.out (by rw [← HM.out]; exact HMM.out.1) HMM.out.2 (HRS.out.later (btr B1.out (bdr (bre _)))) HZ0.out).mono ?_; rintro e w2 ⟨v, rfl, how, hb2⟩;
          have B2 := hid (show Below wr.heap.size wr w2 from btr (btr B1.out (bdr (bre _))) hb2);
          obtain ⟨W3, E', c', hrun, hmp3, hE3, hgr, _⟩ := (HMP.out.later B2.out).put (g, u, v, l, t) (own_base how (by have h1 := HSZ.out; have h2 := B1.out.size; show _ ≤ W1.heap.size; omega)) (fun e he j hj hj' => by have h1 := ((HMP.out.each e he).lt j hj').2; have h2 : W1.heap.size ≤ j := (how.lt j hj).1; have h3 := B1.out.size; omega);
          have hrun' : (Instr.mapUpdate 55 (.map (some w.heap.size)) (.int .i64 g) (.agg #[.int .i64 g, .int .i64 u, v, .string t])).run Tryz.prog w2 = .ok () W3 := hrun;
          have HB3 := hid (show Below w.heap.size w W3 from (btr HB.out B2.out).trans (below_of_grown hgr (Nat.le_refl _) (Nat.le_trans HB.out.size B2.out.size))); have B2' := hid (Mg.cells ((A1.out.later (btr (bdr (bre _)) hb2)).grown hgr (fun e => by have h1 := (Array.getElem?_eq_some_iff.1 HMP.out.lies).1; simp only [Option.some.injEq] at e; omega))); have HM3 := hid hmp3; have HE3 := hid hE3; have HG3 := hid hgr; clear hmp3 hE3 hgr hrun how))
      have HE4 : Hid (E'.map mde = shl (L.take (i + 1))) := by show _ = _; rw [HE3.out, HE.out, HST.out]; rfl
      go_wp2
      go_roundw
      case rel => exact ⟨i + 1, by omega, by go_num, ⟨E', c', HE4.out, HM3.out⟩, HB3.out⟩
      case measure => simp [intOf]; omega
    · have HE2 : Hid (E.map mde = shl L) := by show _ = _; rw [HE.out, List.take_of_length_le (by rw [HL.out]; omega)]
      go_wp2
      go_ret
      exact ⟨rfl, ⟨E, c, HE2.out, HMP.out⟩, hb⟩
end Go.Proofs.YtfmacodnjhegcamGreat
