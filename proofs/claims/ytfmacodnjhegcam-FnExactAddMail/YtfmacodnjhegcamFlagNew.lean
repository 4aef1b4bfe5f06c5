/- New flags. -/
import Derived.Test.YtfmacodnjhegcamFlagOf
namespace Go.Proofs.Ytfmacodnjhegcam
open Go.RowKit

def fnew (n t b : Int) : List R3 := [(bit n 0, t, b), (bit n 1, t, b), (bit n 2, t, b)]
theorem fnew_at (n t b : Int) (i : Nat) (h : i < (fnew n t b).length) : (fnew n t b)[i] = (bit n i, t, b) := by
  have h3 : i = 0 ∨ i = 1 ∨ i = 2 := by simp [fnew] at h; omega
  rcases h3 with rfl | rfl | rfl <;> rfl
theorem fnew_take (n t b : Int) (i : Nat) (h : i < 3) : (fnew n t b).take (i + 1) = (fnew n t b).take i ++ [(bit n i, t, b)] := by
  rw [List.take_succ_eq_append_getElem (by simpa [fnew] using h), fnew_at]

theorem cells_new3 (w : World) (p : R3) (e : Nat) : ∀ j u, (fl [p])[j]? = some u → (w.alloc (.cells #[.int .i64 p.1, .int .i64 p.2.1, .int .i64 p.2.2] e)).cell? ((⟨w.heap.size, 0, none⟩ : Addr).add j) = some u := by
  intro j u hu
  have h := heap_alloc_new w (.cells #[.int .i64 p.1, .int .i64 p.2.1, .int .i64 p.2.2] e)
  have hadd : (⟨w.heap.size, 0, none⟩ : Addr).add j = ⟨w.heap.size, j, none⟩ := by unfold Addr.add; split <;> simp_all
  rw [hadd, cell_of_row _ _ _ _ _ _ h]
  simpa [fl] using hu

/-- One register appended to a row of registers that the call owns: the register lies in a block of its own, laid just ahead. -/
theorem wpList_append_rg (w : World) {ops : Array Oper} {rest : List Oper} {o : Oper} {a : Act} {Q : Exit → Act → World → Prop} (hgd : o.guard = none) (s x : Operand)
    (ho : o.op = .call { callee := .builtin .append, args := #[s, x], argTypes := #[49, 49] })
    (base : Nat) (v : Value) (l : List R3) (hs : a.eval s = v) (hown : Ow w base v l) (p q r : Int)
    (hx : a.eval x = .slice (some ⟨w.heap.size, 0, none⟩) 1 1) (hlen : l.length ≤ 1048576) (hbase : base ≤ w.heap.size)
    (h : ∀ v' w', Ow w' base v' (l ++ [(p, q, r)]) → Below base w w' → wpList Try.prog ops Q rest (a.put o.dst v') w') :
    wpList Try.prog ops Q (o :: rest) a (w.alloc (.cells #[.int .i64 p, .int .i64 q, .int .i64 r] 81)) := by
  obtain ⟨i0, hi, hz0, hz1, hz2⟩ := info_parts3 info_rg
  refine wpList_append_own _ hgd s x 49 ho base 81 i0 _ 3 24 Try.underlying49 hi hz0 hz1 hz2 rfl (by decide) v _ _ hs (hown.alloc _) ⟨w.heap.size, 0, none⟩ 1 1 (fl [(p, q, r)]) hx rfl (cells_new3 w (p, q, r) 81) (fl_one _) (by unfold maxLen; omega) (by omega) (by simp; omega) ?_
  intro v' w' hown' hg _
  have h1 : Ow w' base v' (l ++ [(p, q, r)]) := by unfold Ow; rw [fl_app]; simpa using hown'
  exact h v' w' h1 (((Below.refl base w).alloc hbase _).grown hg (by simp; omega) (fun k hk => (hown.lt k hk).1))

theorem own_empty (W : World) (B : Nat) (hB : B ≤ W.heap.size) : Ow (W.alloc (.cells #[] 81)) B (.slice (some ⟨W.heap.size, 0, none⟩) 0 0) [] :=
  World.ownsRow_lit (base := B) (e := 81) (size := 3) W #[] 0 hB (by unfold maxLen; omega) rfl

theorem bit_odd {n : Int} {i : Nat} {m : Int} (hm : n / 2 ^ i = m) (h : m % 2 = 1) : bit n i = 1 := by unfold bit; rw [hm, h]
theorem bit_even {n : Int} {i : Nat} {m : Int} (hm : n / 2 ^ i = m) (h : ¬ m % 2 = 1) : bit n i = 0 := by unfold bit; rw [hm]; omega

set_option maxHeartbeats 800000 in
set_option maxRecDepth 100000 in
theorem specFlagsNew_any (n t b : Int) (w : World) :
    Calls Try.prog 39 #[.int .i64 n, .agg #[.int .i64 t, .int .i64 b]] w fun e w' => ∃ v, e = .returned v ∧ Ow w' w.heap.size v (fnew n t b) ∧ Below w.heap.size w w' := by
  obtain ⟨W0, hW0⟩ : ∃ W0, w.alloc (.cells #[.int .i64 t, .int .i64 b] 30) = W0 := ⟨_, rfl⟩
  have A0 : Hid (Sg W0 w.heap.size 30 t b) := by subst hW0; exact Sg.new w _ t b
  have B0 : Hid (Below w.heap.size w W0) := by subst hW0; exact bpush (bre _) _
  have S0 : Hid (W0.heap.size = w.heap.size + 1) := by subst hW0; show _ = _; simp
  go_enter Try.func39, Try.ntmps39
  go_wp2
  clear hW0
  go_loopw [5, 6] (fun vv iv wr => ∃ (i : Nat), i ≤ 3 ∧ iv = .int .i64 (i : Int) ∧ Ow wr W0.heap.size vv ((fnew n t b).take i) ∧ Below W0.heap.size W0 wr) (fun _ iv _ => 3 - (intOf iv).toNat)
  case atStart => exact ⟨0, by omega, rfl, own_empty W0 _ (Nat.le_refl _), bpush (bre _) _⟩
  case round =>
    obtain ⟨i, hi, rfl, hown, hb⟩ := hrel
    have HO := hid hown
    have HB := hid hb
    have hsz := hb.size
    have cs := (A0.out.later hb).cells
    clear hown hb
    by_cases hlt : i < 3
    · have HF := hid (fnew_take n t b i hlt)
      have HLN : Hid (((fnew n t b).take i).length ≤ 1048576) := by show _ ≤ _; simp [fnew]; omega
      have h3 : i = 0 ∨ i = 1 ∨ i = 2 := by omega
      rcases h3 with rfl | rfl | rfl
      · by_cases hm : n % 2 = 1
        · have h2 := tmod2 (n) hm
          have HV := hid (bit_odd (n := n) (i := 0) (m := n) (by simp) hm)
          clear hm
          go_wp2_with (at_builtin; refine wpList_append_rg wr rfl (.tmp 19) (.tmp 23) rfl W0.heap.size _ _ (by rfl) HO.out _ _ _ rfl HLN.out hsz ?_; rotate_right; intro v1 w1 hown1 hb1)
          go_roundw
          case rel => exact ⟨0 + 1, by omega, by go_num, by rw [HF.out, HV.out]; exact hown1, HB.out.trans hb1⟩
          case measure => simp [intOf]
        · have h2 := tmod2' (n) (by omega)
          have HV := hid (bit_even (n := n) (i := 0) (m := n) (by simp) hm)
          clear hm
          go_wp2_with (at_builtin; refine wpList_append_rg wr rfl (.tmp 19) (.tmp 23) rfl W0.heap.size _ _ (by rfl) HO.out _ _ _ rfl HLN.out hsz ?_; rotate_right; intro v1 w1 hown1 hb1)
          go_roundw
          case rel => exact ⟨0 + 1, by omega, by go_num, by rw [HF.out, HV.out]; exact hown1, HB.out.trans hb1⟩
          case measure => simp [intOf]
      · by_cases hm : (n / 2) % 2 = 1
        · have h2 := tmod2 (n / 2) hm
          have HV := hid (bit_odd (n := n) (i := 1) (m := n / 2) (by simp) hm)
          clear hm
          go_wp2_with (at_builtin; refine wpList_append_rg wr rfl (.tmp 19) (.tmp 23) rfl W0.heap.size _ _ (by rfl) HO.out _ _ _ rfl HLN.out hsz ?_; rotate_right; intro v1 w1 hown1 hb1)
          go_roundw
          case rel => exact ⟨1 + 1, by omega, by go_num, by rw [HF.out, HV.out]; exact hown1, HB.out.trans hb1⟩
          case measure => simp [intOf]
        · have h2 := tmod2' (n / 2) (by omega)
          have HV := hid (bit_even (n := n) (i := 1) (m := n / 2) (by simp) hm)
          clear hm
          go_wp2_with (at_builtin; refine wpList_append_rg wr rfl (.tmp 19) (.tmp 23) rfl W0.heap.size _ _ (by rfl) HO.out _ _ _ rfl HLN.out hsz ?_; rotate_right; intro v1 w1 hown1 hb1)
          go_roundw
          case rel => exact ⟨1 + 1, by omega, by go_num, by rw [HF.out, HV.out]; exact hown1, HB.out.trans hb1⟩
          case measure => simp [intOf]
      · by_cases hm : (n / 4) % 2 = 1
        · have h2 := tmod2 (n / 4) hm
          have HV := hid (bit_odd (n := n) (i := 2) (m := n / 4) (by simp) hm)
          clear hm
          go_wp2_with (at_builtin; refine wpList_append_rg wr rfl (.tmp 19) (.tmp 23) rfl W0.heap.size _ _ (by rfl) HO.out _ _ _ rfl HLN.out hsz ?_; rotate_right; intro v1 w1 hown1 hb1)
          go_roundw
          case rel => exact ⟨2 + 1, by omega, by go_num, by rw [HF.out, HV.out]; exact hown1, HB.out.trans hb1⟩
          case measure => simp [intOf]
        · have h2 := tmod2' (n / 4) (by omega)
          have HV := hid (bit_even (n := n) (i := 2) (m := n / 4) (by simp) hm)
          clear hm
          go_wp2_with (at_builtin; refine wpList_append_rg wr rfl (.tmp 19) (.tmp 23) rfl W0.heap.size _ _ (by rfl) HO.out _ _ _ rfl HLN.out hsz ?_; rotate_right; intro v1 w1 hown1 hb1)
          go_roundw
          case rel => exact ⟨2 + 1, by omega, by go_num, by rw [HF.out, HV.out]; exact hown1, HB.out.trans hb1⟩
          case measure => simp [intOf]
    · have HE : Hid (i = 3) := by show _ = _; omega
      go_wp2
      go_ret
      refine ⟨_, rfl, own_base (B' := W0.heap.size) ?_ (by rw [S0.out]; omega), btr B0.out HB.out⟩
      have h := HO.out; rw [HE.out] at h; exact h

set_option maxHeartbeats 400000 in
set_option maxRecDepth 100000 in
theorem implFlagsNew_any (n t b : Int) (w : World) :
    Calls Try.prog 44 #[.int .i64 n, .agg #[.int .i64 t, .int .i64 b]] w fun e w' => ∃ g, w.heap.size ≤ g ∧ e = .returned (.slice (some ⟨g, 0, none⟩) 3 3) ∧ Ow w' w.heap.size (.slice (some ⟨g, 0, none⟩) 3 3) (fnew n t b) ∧ Below w.heap.size w w' := by
  obtain ⟨M, hM, hmk⟩ := make_rg 3 (by decide)
  have hmk' : ∀ W : World, (Instr.makeSlice 49 (.int .i64 3) (.int .i64 3)).run Try.prog W = .ok (.slice (some ⟨W.heap.size, 0, none⟩) 3 3) (W.alloc (.cells M 81)) := hmk
  clear hmk
  go_enter Try.func44, Try.ntmps44
  go_wp2
  clear hmk'
  obtain ⟨W0, hW0⟩ : ∃ W0, w.alloc (.cells #[.int .i64 t, .int .i64 b] 30) = W0 := ⟨_, rfl⟩
  have A0 : Hid (Sg W0 w.heap.size 30 t b) := by subst hW0; exact Sg.new w _ t b
  have B0 : Hid (Below w.heap.size w W0) := by subst hW0; exact bpush (bre _) _
  have S0 : W0.heap.size = w.heap.size + 1 := by subst hW0; simp
  rw [hW0, ← S0]
  have S0' := hid S0
  clear hW0 S0
  go_loopw [10] (fun iv wr => ∃ i : Nat, i ≤ 3 ∧ iv = .int .i64 (i : Int) ∧ Ow wr W0.heap.size (.slice (some ⟨W0.heap.size, 0, none⟩) 3 3) (fil (fnew n t b) i) ∧ Below W0.heap.size W0 wr) (fun iv _ => 3 - (intOf iv).toNat)
  case atStart => exact ⟨0, by omega, rfl, by rw [fil_zero]; exact hM.out W0, bpush (bre _) _⟩
  case round =>
    obtain ⟨i, hi, rfl, hown, hb⟩ := hrel
    have HO := hid hown
    have HB := hid hb
    have hsz := hb.size
    clear hown hb
    by_cases hlt : i < 3
    · have cs := (A0.out.later HB.out).cells
      have hil : i < (fnew n t b).length := by simpa [fnew] using hlt
      have hil' : i < (fil (fnew n t b) i).length := by rw [fil_len _ _ (by omega)]; exact hil
      obtain ⟨x, y, z, hc, hf⟩ := Ow.spot HO.out i hil'
      have HST := hid (Ow.stored HO.out i hil' (bit n i, t, b))
      have hI : (0 : Int) ≤ (i : Int) ∧ (i : Int) < 3 := by omega
      clear hil'
      go_wp2_with fail
      go_region_with (first | (go_at_call 62; refine (valAt_any n i _ hlt).mono ?_; rintro e w1 ⟨rfl, rfl⟩))
      all_goals
        go_wp2
        go_roundw
        case rel => exact ⟨i + 1, by omega, by go_num, Ow.cast (HST.out) (by rw [← fnew_at n t b i hil]; exact fil_set _ i hil), (bset (bset (bset HB.out (Nat.le_refl _) _) (Nat.le_refl _) _) (Nat.le_refl _) _).drew⟩
        case measure => simp [intOf]; omega
    · have HE : Hid (i = (fnew n t b).length) := by show _ = _; simp [fnew]; omega
      go_wp2
      go_ret
      exact ⟨W0.heap.size, by rw [S0'.out]; omega, rfl, own_base (B' := W0.heap.size) (HO.out.cast (by rw [HE.out, fil_all])) (by rw [S0'.out]; omega), btr B0.out HB.out⟩
end Go.Proofs.Ytfmacodnjhegcam
