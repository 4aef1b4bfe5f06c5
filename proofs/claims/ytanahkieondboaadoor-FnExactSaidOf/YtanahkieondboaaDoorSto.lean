/- Lists of boxes and stores as the laws hand them over, and hold them against each other. -/
import Derived.Test.YtanahkieondboaaDoorSok
import Derived.Test.YtanahkieondboaaDoorSat
namespace Go.Proofs.YtanahkieondboaaDoor
open Go.RowKit Go.ChangeMaps

def y0 (B : Nat) : Y9 := ⟨0, ⟨#[]⟩, 0, 0, 0, .slice none 0 0, .slice none 0 0, [], [], B, B⟩
theorem yc_rep (B n : Nat) : ∀ j, (yc (List.replicate n (y0 B)))[j]? = if j < n * 7 then some (match j % 7 with | 0 => .int .i64 0 | 1 => .string ⟨#[]⟩ | 2 => .int .i64 0 | 3 => .int .i64 0 | 4 => .int .i64 0 | _ => .slice none 0 0) else none := by
  induction n with
  | zero => intro j; simp [yc]
  | succ n ih =>
    intro j
    rw [List.replicate_succ]
    match j with
    | 0 => simp [yc, y0]
    | 1 => simp [yc, y0]; omega
    | 2 => simp [yc, y0]; omega
    | 3 => simp [yc, y0]; omega
    | 4 => simp [yc, y0]; omega
    | 5 => simp [yc, y0]; omega
    | 6 => simp [yc, y0]; omega
    | j + 7 =>
      have e := ih j
      have h1 : (yc (y0 B :: List.replicate n (y0 B)))[j + 7]? = (yc (List.replicate n (y0 B)))[j]? := by simp [yc]
      have h2 : (j + 7 < (n + 1) * 7) ↔ (j < n * 7) := by omega
      rw [h1, e, show (j + 7) % 7 = j % 7 by omega]
      simp only [h2]
theorem made7 (B n : Nat) : (madeCells #[.int .i64 0, .string ⟨#[]⟩, .int .i64 0, .int .i64 0, .int .i64 0, .slice none 0 0, .slice none 0 0] (n * 7)).toList = yc (List.replicate n (y0 B)) := by
  apply List.ext_getElem?
  intro j
  rw [yc_rep]
  by_cases hj : j < n * 7
  · have h7 : j % 7 = 0 ∨ j % 7 = 1 ∨ j % 7 = 2 ∨ j % 7 = 3 ∨ j % 7 = 4 ∨ j % 7 = 5 ∨ j % 7 = 6 := by omega
    rcases h7 with h | h | h | h | h | h | h <;> simp [madeCells, hj, h]
  · simp [madeCells, hj]
theorem owx_nil (W : World) (B : Nat) (h : B ≤ W.heap.size) : OwX W B B (.slice none 0 0) (.slice none 0 0) [] [] :=
  ⟨⟨[], rfl, ⟨World.ownsRow_nil _ _ _ _, fun z hz => by simp at hz, fun z hz => by simp at hz, List.Pairwise.nil⟩, World.ownsRow_nil _ _ _ _, Dj.nil _, fun z hz => by simp at hz, fun j hj => by simp [Value.ownBlock] at hj, fun j hj => by simp [Value.ownBlock] at hj, fun z hz => by simp at hz⟩, h⟩
/-- A new row of n boxes. -/
theorem make_bx (n : Nat) (hn : n ≤ 1048576) : ∃ M : Array Value, Hid (∀ W : World, OwS (W.alloc (.cells M 43)) W.heap.size (.slice (some ⟨W.heap.size, 0, none⟩) n n) (List.replicate n (y0 W.heap.size))) ∧
    ∀ W : World, (Instr.makeSlice 30 (.int .i64 (n : Int)) (.int .i64 (n : Int))).run Tryd.prog W = .ok (.slice (some ⟨W.heap.size, 0, none⟩) n n) (W.alloc (.cells M 43)) := by
  obtain ⟨i0, hi, hz0, hz1, hz2⟩ := info_parts3 info_bx
  refine ⟨madeCells #[.int .i64 0, .string ⟨#[]⟩, .int .i64 0, .int .i64 0, .int .i64 0, .slice none 0 0, .slice none 0 0] (n * 7), fun W => ?_, fun W => ?_⟩
  · have h := World.ownsRow_lit (base := W.heap.size) (e := 43) (size := 7) W (madeCells #[.int .i64 0, .string ⟨#[]⟩, .int .i64 0, .int .i64 0, .int .i64 0, .slice none 0 0, .slice none 0 0] (n * 7)) n (Nat.le_refl _) (by unfold maxLen; omega) (size_madeCells _ _)
    rw [made7 W.heap.size] at h
    refine ⟨by simpa using h, fun y hy => ?_, fun y hy j hj => ?_, ?_⟩
    · obtain rfl := List.eq_of_mem_replicate hy
      exact ⟨owx_nil _ _ (by show W.heap.size ≤ _; simp), Nat.le_refl _⟩
    · obtain rfl := List.eq_of_mem_replicate hy
      have e : (some W.heap.size : Option Nat) = some j := hj
      simp only [Option.some.injEq] at e
      exact .inr (by show W.heap.size ≤ j; omega)
    · exact List.pairwise_of_forall_mem_list fun x hx y hy => by
        obtain rfl := List.eq_of_mem_replicate hx
        obtain rfl := List.eq_of_mem_replicate hy
        exact .inl (Nat.le_refl _)
  · have h := run_make (P := Tryd.prog) W 30 43 i0 (.agg #[.int .i64 0, .string ⟨#[]⟩, .int .i64 0, .int .i64 0, .int .i64 0, .slice none 0 0, .slice none 0 0]) Tryd.underlying30 hi hz0 .i64 .i64 (n : Int) (n : Int) (by omega) (by omega) (by rw [hz2]; omega) (by omega)
    rw [hz1, Int.toNat_natCast] at h
    exact h

set_option maxHeartbeats 1600000 in
set_option maxRecDepth 100000 in
theorem toBoxS_any (lo hh : Nat) (ao : Option Addr) (n cap : Nat) (S : List X7) (w : World) (hl : S.length = n) (hn : n ≤ 1048576) (hsb : Sb S) (hr : Bs lo hh w ao S) :
    Calls Tryd.prog 19 #[.slice ao n cap] w fun e w' => e = .returned (.slice (some ⟨w.heap.size, 0, none⟩) n n) ∧ (∃ Y, Y.map yd = S ∧ OwS w' w.heap.size (.slice (some ⟨w.heap.size, 0, none⟩) n n) Y) ∧ Below w.heap.size w w' := by
  obtain ⟨M, hM, hmk⟩ := make_bx n hn
  have HR := hid hr
  have HL := hid hl
  have HS := hid hsb
  clear hr hl hsb
  go_enter Tryd.func19, Tryd.ntmps19
  go_wp2
  clear hmk
  go_loopw [4] (fun iv wr => ∃ i : Nat, i ≤ n ∧ iv = .int .i64 (i : Int) ∧ (∃ Y : List Y9, Y.length = n ∧ (Y.take i).map yd = S.take i ∧ OwS wr w.heap.size (.slice (some ⟨w.heap.size, 0, none⟩) n n) Y) ∧ Below w.heap.size w wr) (fun iv _ => n - (intOf iv).toNat)
  case atStart => exact ⟨0, Nat.zero_le _, rfl, ⟨_, List.length_replicate, by simp, hM.out w⟩, bpush (bre _) _⟩
  case round =>
    obtain ⟨i, hi, rfl, ⟨Y, hZn, hZt, hown⟩, hb⟩ := hrel
    have HO := hid hown
    have HZN := hid hZn
    have HZT := hid hZt
    have HB := hid hb
    clear hown hZn hZt hb
    by_cases hlt : i < n
    · have hil : i < S.length := by rw [HL.out]; exact hlt
      obtain ⟨k, o, ma, mc, ga, gc, rfl, hk, c, hms, his, _⟩ := (HR.out.later HB.out).at hil
      have hmem := HS.out S[i] (List.getElem_mem hil)
      obtain ⟨p, hp⟩ : ∃ p, S[i] = p := ⟨_, rfl⟩
      rw [hp] at c hms his hmem
      obtain ⟨g, nm, t, b, nx, L, G⟩ := p
      dsimp only at c hms his hmem
      obtain ⟨m, hm⟩ : ∃ m, L.length = m := ⟨_, rfl⟩
      obtain ⟨q, hq⟩ : ∃ q, G.length = q := ⟨_, rfl⟩
      rw [hm, hq] at c hmem
      have HP := hid hp
      have HMS := hid hms
      have HIS := hid his
      have HMM := hid hmem
      have HM := hid hm
      have HQ := hid hq
      unfold C7 at c
      clear hp hms his hmem hm hq
      go_wp2_with fail
      refine (toBox_any lo hh lo hh g nm t b nx ma m mc ga q gc L G _ HM.out HMM.out.2.1 HMM.out.2.2.1 HMS.out HQ.out HMM.out.2.2.2 HIS.out).mono ?_; rintro e w1 ⟨km, kg, rfl, how, hb1⟩
      have H1 := hid (HO.out.later hb1)
      have hiz : i < Y.length := by rw [HZN.out]; exact hlt
      obtain ⟨hc, hf⟩ := OwS.spot H1.out i hiz
      have HF := hf (i * 7)
      have HF1 := hf (i * 7 + 1)
      have HF2 := hf (i * 7 + 2)
      have HF3 := hf (i * 7 + 3)
      have HF4 := hf (i * 7 + 4)
      have HF5 := hf (i * 7 + 5)
      have HF6 := hf (i * 7 + 6)
      unfold C7 at hc
      have hgk : w.heap.size < wr.heap.size := ((HO.out.row.lt w.heap.size rfl).2)
      have HST := hid (OwS.stored H1.out i hiz ⟨g, nm, t, b, nx, .slice (some ⟨km, 0, none⟩) m m, .slice (some ⟨kg, 0, none⟩) q q, L, G, wr.heap.size, w1.heap.size⟩ how.owx (by show w.heap.size ≤ wr.heap.size; omega) (.inl hgk) (fun x hx => .inl (HO.out.each x hx).1.top))
      have HB1 : Hid (Below w.heap.size w w1) := btr HB.out hb1
      clear c hb1 how hgk hf
      go_wp2
      go_roundw
      case rel =>
        refine ⟨i + 1, by omega, by go_num, ⟨_, ?_, ?_, HST.out⟩, bset (bset (bset (bset (bset (bset (bset HB1.out (Nat.le_refl _) _) (Nat.le_refl _) _) (Nat.le_refl _) _) (Nat.le_refl _) _) (Nat.le_refl _) _) (Nat.le_refl _) _) (Nat.le_refl _) _⟩
        · rw [List.length_set]; exact HZN.out
        · rw [List.take_succ_eq_append_getElem (by rw [List.length_set]; exact hiz), List.take_succ_eq_append_getElem hil, List.map_append, List.take_set_of_le (Nat.le_refl _), HZT.out, List.getElem_set_self, HP.out]; rfl
      case measure => simp [intOf]; omega
    · have HE : Hid (Y.map yd = S) := by
        show _ = _
        have := HZT.out
        rwa [List.take_of_length_le (by rw [HZN.out]; omega), List.take_of_length_le (by rw [HL.out]; omega)] at this
      go_wp2
      go_ret
      exact ⟨rfl, ⟨Y, HE.out, HO.out⟩, HB.out⟩
end Go.Proofs.YtanahkieondboaaDoor
