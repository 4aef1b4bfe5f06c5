/- JoinGone, as the specification does it. -/
import Derived.Test.YtmpcmllfgogegaaJgp
namespace Go.Proofs.Ytmpcmllfgogegaa
open Go.RowKit Go.ChangeMaps

theorem wpList_append_intw (w : World) {ops : Array Oper} {rest : List Oper} {o : Oper} {a : Act} {Q : Exit → Act → World → Prop} (hgd : o.guard = none) (s x : Operand)
    (ho : o.op = .call { callee := .builtin .append, args := #[s, x], argTypes := #[22, 22] })
    (base : Nat) (v : Value) (bs : List Int) (hs : a.eval s = v) (hown : OwI w base v bs) (n : Int)
    (hx : a.eval x = .slice (some ⟨w.heap.size, 0, none⟩) 1 1) (hlen : bs.length ≤ 9000000) (hbase : base ≤ w.heap.size)
    (h : ∀ v' w', OwI w' base v' (bs ++ [n]) → Below base w w' → wpList Try.prog ops Q rest (a.put o.dst v') w') :
    wpList Try.prog ops Q (o :: rest) a (w.alloc (.cells #[.int .i64 n] 3)) := by
  obtain ⟨i0, hi, hz0, hz1, hz2⟩ := info_parts3 info_int
  refine wpList_append_own _ hgd s x 22 ho base 3 i0 (.int .i64 0) 1 8 Try.underlying22 hi hz0 hz1 hz2 rfl (by decide) v _ _ hs (hown.alloc _) ⟨w.heap.size, 0, none⟩ 1 1 [.int .i64 n] hx rfl (cell_one_int _ _ _) (by intro u hu; simp at hu; subst hu; rfl) (by unfold maxLen; omega) (by omega) (by simp; omega) ?_
  intro v' w' hown' hg _
  refine h v' w' (by simpa [OwI] using hown') (((Below.refl base w).alloc hbase _).grown hg (by simp; omega) (fun k hk => (hown.lt k hk).1))

set_option maxHeartbeats 800000 in
set_option maxRecDepth 100000 in
theorem l06In_wide (lo hi : Nat) (ao : Option Addr) (n cap : Nat) (G : List Int) (x : Int) (w : World) (hl : G.length = n) (hn : n ≤ 4194304) (hr : Is lo hi w ao G) :
    Calls Try.prog 10 #[.slice ao n cap, .int .i64 x] w fun e w' => e = .returned (.bool (inl x G)) ∧ w' = w := by
  have HR := hid hr
  have HL := hid hl
  have HI := hid (idx_inl x G 0)
  clear hr hl
  go_enter Try.func10, Try.ntmps10
  go_wp2
  go_loopw [5] (fun iv wr => ∃ (i : Nat), i ≤ n ∧ iv = .int .i64 (i : Int) ∧ Hid (idx x G 0 = idx x (G.drop i) i) ∧ wr = w) (fun iv _ => n - (intOf iv).toNat)
  case atStart => exact ⟨0, Nat.zero_le _, rfl, rfl, rfl⟩
  case round =>
    obtain ⟨i, hi, rfl, HQ, hw⟩ := hrel
    subst hw
    by_cases hlt : i < n
    · have hil : i < G.length := by rw [HL.out]; exact hlt
      obtain ⟨k, o, rfl, hk, c⟩ := HR.out.at hil
      obtain ⟨y, hy⟩ : ∃ y, G[i] = y := ⟨_, rfl⟩
      rw [hy] at c
      have hI : (0 : Int) ≤ (i : Int) ∧ (i : Int) < (n : Int) := by omega
      by_cases hxy : y = x
      · have HE : Hid (inl x G = true) := by show _ = _; rw [← HI.out, HQ.out, idx_here hil (by rw [hy, hxy])]; simp
        subst hxy
        clear hy
        go_wp2
        go_ret
        exact ⟨by rw [HE.out]; rfl, rfl⟩
      · have HE : Hid (idx x G 0 = idx x (G.drop (i + 1)) (i + 1)) := by show _ = _; rw [HQ.out, idx_on hil (by rw [hy]; exact hxy)]
        have hxy' : (y == x) = false := by simp [hxy]
        clear hy
        go_wp2
        go_roundw
        case rel => exact ⟨i + 1, by omega, by go_num, HE, by first | rfl | trivial⟩
        case measure => simp [intOf]; omega
    · have HE : Hid (inl x G = false) := by show _ = _; rw [← HI.out, HQ.out, List.drop_of_length_le (by rw [HL.out]; omega)]; rfl
      go_wp2
      go_ret
      exact ⟨by rw [HE.out]; rfl, rfl⟩

set_option maxHeartbeats 1600000 in
set_option maxRecDepth 100000 in
theorem l06Put_wide (lo hh : Nat) (ga : Option Addr) (gn gc : Nat) (G : List Int) (x : Int) (w : World) (hgl : G.length = gn) (hgn : gn ≤ 4194304) (hs : Is lo hh w ga G) :
    Calls Try.prog 11 #[.slice ga gn gc, .int .i64 x] w fun e w' => ∃ gv, e = .returned gv ∧ OwI w' w.heap.size gv (pin x G) ∧ Below w.heap.size w w' := by
  have HGL := hid hgl
  have HIS := hid hs
  clear hgl hs
  go_enter Try.func11, Try.ntmps11
  go_wp2
  go_loopw [5, 6] (fun ov iv wr => ∃ i : Nat, i ≤ gn ∧ iv = .int .i64 (i : Int) ∧ OwI wr w.heap.size ov ((G.take i).filter (fun y => decide (y < x))) ∧ Below w.heap.size w wr) (fun _ iv _ => gn - (intOf iv).toNat)
  case atStart => exact ⟨0, Nat.zero_le _, rfl, by simpa using ownI_empty w _ (Nat.le_refl _), bpush (bre _) _⟩
  case round =>
    obtain ⟨i, hi, rfl, hown, hb⟩ := hrel
    have HO := hid hown
    have HB := hid hb
    have HSZ := hid hb.size
    clear hown hb
    by_cases hlt : i < gn
    · have hil : i < G.length := by rw [HGL.out]; exact hlt
      obtain ⟨k, o, rfl, hk, c⟩ := (HIS.out.later HB.out).at hil
      have hft := filter_take hil (fun y => decide (y < x))
      obtain ⟨y, hy⟩ : ∃ y, G[i] = y := ⟨_, rfl⟩
      rw [hy] at c hft
      have HL := hid (gfl_len G (fun y => decide (y < x)) i)
      clear hy
      have hI : (0 : Int) ≤ (i : Int) ∧ (i : Int) < (gn : Int) := by omega
      by_cases hyx : y < x
      · rw [if_pos (by simpa using hyx)] at hft
        have HFT := hid hft
        clear hft
        go_wp2_with (at_builtin; refine wpList_append_intw wr rfl (.tmp 21) (.tmp 26) rfl w.heap.size _ _ (by rfl) HO.out y rfl (by have h1 := HL.out; have h2 := HGL.out; omega) HSZ.out ?_; intro v4 w4 hown4 hb4; have HO4 := hid hown4; have HB4 := hid hb4; clear hown4 hb4)
        go_roundw
        case rel => exact ⟨i + 1, by omega, by go_num, by rw [HFT.out]; exact HO4.out, HB.out.trans HB4.out⟩
        case measure => simp [intOf]; omega
      · rw [if_neg (by simpa using hyx), List.append_nil] at hft
        have HFT := hid hft
        clear hft
        go_wp2
        go_roundw
        case rel => exact ⟨i + 1, by omega, by go_num, by rw [HFT.out]; exact HO.out, HB.out⟩
        case measure => simp [intOf]; omega
    · have HE : Hid (G.take i = G) := List.take_of_length_le (by rw [HGL.out]; omega)
      have HL := hid (gfl_len G (fun y => decide (y < x)) i)
      go_wp2_with (at_builtin; refine wpList_append_intw wr rfl (.tmp 28) (.tmp 30) rfl w.heap.size _ _ (by rfl) HO.out x rfl (by have h1 := HL.out; have h2 := HGL.out; omega) HSZ.out ?_; intro v4 w4 hown4 hb4; have HO4 := hid hown4; have HB4 := hid hb4; clear hown4 hb4)
      have HB5 := hid (HB.out.trans HB4.out)
      have HO5 : Hid (OwI w4 w.heap.size v4 (G.filter (fun y => decide (y < x)) ++ [x])) := by
        have h := HO4.out
        rw [HE.out] at h
        exact h
      have hln : (G.filter (fun y => decide (y < x))).length ≤ G.length := List.length_filter_le _ _
      have HLN := hid hln
      clear hln HO HB HSZ HO4 HB4 HE HL
      go_loopw [5, 7] (fun ov iv wr => ∃ i : Nat, i ≤ gn ∧ iv = .int .i64 (i : Int) ∧ OwI wr w.heap.size ov (G.filter (fun y => decide (y < x)) ++ x :: (G.take i).filter (fun y => decide (x < y))) ∧ Below w.heap.size w wr) (fun _ iv _ => gn - (intOf iv).toNat)
      case atStart => exact ⟨0, Nat.zero_le _, rfl, by simpa using HO5.out, HB5.out⟩
      case round =>
        obtain ⟨i, hi, rfl, hown, hb⟩ := hrel
        have HO := hid hown
        have HB := hid hb
        have HSZ := hid hb.size
        clear hown hb
        by_cases hlt : i < gn
        · have hil : i < G.length := by rw [HGL.out]; exact hlt
          obtain ⟨k, o, rfl, hk, c⟩ := (HIS.out.later HB.out).at hil
          have hft := filter_take hil (fun y => decide (x < y))
          obtain ⟨y, hy⟩ : ∃ y, G[i] = y := ⟨_, rfl⟩
          rw [hy] at c hft
          have HL := hid (gfl_len G (fun y => decide (x < y)) i)
          clear hy
          have hI : (0 : Int) ≤ (i : Int) ∧ (i : Int) < (gn : Int) := by omega
          by_cases hyx : x < y
          · rw [if_pos (by simpa using hyx)] at hft
            have HFT := hid hft
            clear hft
            go_wp2_with (at_builtin; refine wpList_append_intw wr rfl (.tmp 44) (.tmp 49) rfl w.heap.size _ _ (by rfl) HO.out y rfl (by have h1 := HL.out; have h2 := HGL.out; have h3 := HLN.out; rw [List.length_append, List.length_cons]; omega) HSZ.out ?_; intro v4 w4 hown4 hb4; have HO4 := hid hown4; have HB4 := hid hb4; clear hown4 hb4)
            go_roundw
            case rel => exact ⟨i + 1, by omega, by go_num, by rw [HFT.out]; have h := HO4.out; rw [List.append_assoc, List.cons_append] at h; exact h, HB.out.trans HB4.out⟩
            case measure => simp [intOf]; omega
          · rw [if_neg (by simpa using hyx), List.append_nil] at hft
            have HFT := hid hft
            clear hft
            go_wp2
            go_roundw
            case rel => exact ⟨i + 1, by omega, by go_num, by rw [HFT.out]; exact HO.out, HB.out⟩
            case measure => simp [intOf]; omega
        · have HE : Hid (G.take i = G) := List.take_of_length_le (by rw [HGL.out]; omega)
          go_wp2
          go_ret
          exact ⟨_, rfl, by have h := HO.out; rw [HE.out] at h; exact h, HB.out⟩

set_option maxHeartbeats 1600000 in
set_option maxRecDepth 100000 in
theorem specJoinGone_any (l1 h1 l2 h2 : Nat) (ga : Option Addr) (gn gc : Nat) (G : List Int) (ga' : Option Addr) (gn' gc' : Nat) (G' : List Int) (w : World) (hgl : G.length = gn) (hgn : gn ≤ 1048576) (hs : Is l1 h1 w ga G) (hgl' : G'.length = gn') (hgn' : gn' ≤ 1048576) (hs' : Is l2 h2 w ga' G') :
    Calls Try.prog 4 #[.slice ga gn gc, .slice ga' gn' gc'] w fun e w' => ∃ gv, e = .returned gv ∧ OwI w' w.heap.size gv (asl (G ++ G')) ∧ Below w.heap.size w w' := by
  have HGL := hid hgl
  have HIS := hid hs
  have HGL' := hid hgl'
  have HIS' := hid hs'
  clear hgl hs hgl' hs'
  go_enter Try.func4, Try.ntmps4
  go_wp2
  go_loopw [5, 6] (fun ov iv wr => ∃ i : Nat, i ≤ gn ∧ iv = .int .i64 (i : Int) ∧ OwI wr w.heap.size ov (asl (G.take i)) ∧ Below w.heap.size w wr) (fun _ iv _ => gn - (intOf iv).toNat)
  case atStart => exact ⟨0, Nat.zero_le _, rfl, by simpa [asl] using ownI_empty w _ (Nat.le_refl _), bpush (bre _) _⟩
  case round =>
    obtain ⟨i, hi, rfl, hown, hb⟩ := hrel
    have HO := hid hown
    have HB := hid hb
    clear hown hb
    by_cases hlt : i < gn
    · have hil : i < G.length := by rw [HGL.out]; exact hlt
      obtain ⟨k, o, rfl, hk, c⟩ := (HIS.out.later HB.out).at hil
      have hsn : asl (G.take (i + 1)) = ins1 (asl (G.take i)) G[i] := by rw [List.take_succ_eq_append_getElem hil, asl_snoc]
      obtain ⟨y, hy⟩ : ∃ y, G[i] = y := ⟨_, rfl⟩
      rw [hy] at c hsn
      have hlen : (asl (G.take i)).length ≤ 4194304 := by have h1 := asl_len (G.take i); rw [List.length_take] at h1; omega
      obtain ⟨Q, hQ⟩ : ∃ Q, asl (G.take i) = Q := ⟨_, rfl⟩
      rw [hQ] at HO hsn hlen
      obtain ⟨a, cc, rfl, _⟩ := OwI.shape HO.out
      have HI := hid (OwI.is HO.out).2
      have HLN := hid hlen
      have HSN := hid hsn
      have hI : (0 : Int) ≤ (i : Int) ∧ (i : Int) < (gn : Int) := by omega
      clear hy hQ hsn hlen
      go_wp2_with fail
      refine (l06In_wide _ _ a Q.length cc Q y wr rfl HLN.out HI.out).mono ?_; rintro e w1 ⟨rfl, hw⟩
      subst hw
      by_cases hin : inl y Q = true
      · rw [hin]
        have HE : Hid (asl (G.take (i + 1)) = Q) := by show _ = _; rw [HSN.out, ins1, if_pos hin]
        clear hin
        go_wp2
        go_roundw
        case rel => exact ⟨i + 1, by omega, by go_num, by rw [HE.out]; exact HO.out, HB.out⟩
        case measure => simp [intOf]; omega
      · have HE : Hid (asl (G.take (i + 1)) = pin y Q) := by show _ = _; rw [HSN.out, ins1, if_neg hin]
        have hin' : inl y Q = false := by simpa using hin
        rw [hin']
        clear hin hin'
        go_wp2_with fail
        refine (l06Put_wide _ _ a Q.length cc Q y _ rfl HLN.out HI.out).mono ?_; rintro e w2 ⟨gv, rfl, ho, hb2⟩
        have HO2 := hid (own_base ho HB.out.size)
        have HB2 := hid (btr HB.out hb2)
        clear ho hb2
        go_wp2
        go_roundw
        case rel => exact ⟨i + 1, by omega, by go_num, by rw [HE.out]; exact HO2.out, HB2.out⟩
        case measure => simp [intOf]; omega
    · have HE : Hid (G.take i = G) := List.take_of_length_le (by rw [HGL.out]; omega)
      have HO5 := hid HO.out
      rw [HE.out] at HO5
      clear HO HE
      go_wp2
      go_loopw [5, 7] (fun ov iv wr => ∃ i : Nat, i ≤ gn' ∧ iv = .int .i64 (i : Int) ∧ OwI wr w.heap.size ov (asl (G ++ G'.take i)) ∧ Below w.heap.size w wr) (fun _ iv _ => gn' - (intOf iv).toNat)
      case atStart => exact ⟨0, Nat.zero_le _, rfl, by simpa using HO5.out, HB.out⟩
      case round =>
        obtain ⟨i, hi, rfl, hown, hb⟩ := hrel
        have HO := hid hown
        have HB := hid hb
        clear hown hb
        by_cases hlt : i < gn'
        · have hil : i < G'.length := by rw [HGL'.out]; exact hlt
          obtain ⟨k, o, rfl, hk, c⟩ := (HIS'.out.later HB.out).at hil
          have hsn : asl (G ++ G'.take (i + 1)) = ins1 (asl (G ++ G'.take i)) G'[i] := by rw [List.take_succ_eq_append_getElem hil, ← List.append_assoc, asl_snoc]
          obtain ⟨y, hy⟩ : ∃ y, G'[i] = y := ⟨_, rfl⟩
          rw [hy] at c hsn
          have hlen : (asl (G ++ G'.take i)).length ≤ 4194304 := by have h1 := asl_len (G ++ G'.take i); have h2 := HGL.out; rw [List.length_append, List.length_take] at h1; omega
          obtain ⟨Q, hQ⟩ : ∃ Q, asl (G ++ G'.take i) = Q := ⟨_, rfl⟩
          rw [hQ] at HO hsn hlen
          obtain ⟨a, cc, rfl, _⟩ := OwI.shape HO.out
          have HI := hid (OwI.is HO.out).2
          have HLN := hid hlen
          have HSN := hid hsn
          have hI : (0 : Int) ≤ (i : Int) ∧ (i : Int) < (gn' : Int) := by omega
          clear hy hQ hsn hlen
          go_wp2_with fail
          refine (l06In_wide _ _ a Q.length cc Q y wr rfl HLN.out HI.out).mono ?_; rintro e w1 ⟨rfl, hw⟩
          subst hw
          by_cases hin : inl y Q = true
          · rw [hin]
            have HE : Hid (asl (G ++ G'.take (i + 1)) = Q) := by show _ = _; rw [HSN.out, ins1, if_pos hin]
            clear hin
            go_wp2
            go_roundw
            case rel => exact ⟨i + 1, by omega, by go_num, by rw [HE.out]; exact HO.out, HB.out⟩
            case measure => simp [intOf]; omega
          · have HE : Hid (asl (G ++ G'.take (i + 1)) = pin y Q) := by show _ = _; rw [HSN.out, ins1, if_neg hin]
            have hin' : inl y Q = false := by simpa using hin
            rw [hin']
            clear hin hin'
            go_wp2_with fail
            refine (l06Put_wide _ _ a Q.length cc Q y _ rfl HLN.out HI.out).mono ?_; rintro e w2 ⟨gv, rfl, ho, hb2⟩
            have HO2 := hid (own_base ho HB.out.size)
            have HB2 := hid (btr HB.out hb2)
            clear ho hb2
            go_wp2
            go_roundw
            case rel => exact ⟨i + 1, by omega, by go_num, by rw [HE.out]; exact HO2.out, HB2.out⟩
            case measure => simp [intOf]; omega
        · have HE : Hid (G'.take i = G') := List.take_of_length_le (by rw [HGL'.out]; omega)
          have HO5 := hid HO.out
          rw [HE.out] at HO5
          clear HO HE
          go_wp2
          go_ret
          exact ⟨_, rfl, HO5.out, HB.out⟩
end Go.Proofs.Ytmpcmllfgogegaa
