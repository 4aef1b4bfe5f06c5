/- A server at its beginning. -/
import Derived.Test.YtckenihadlmlaaaXve
namespace Go.Proofs.Ytckenihadlmlaaa
open Go.RowKit Go.ChangeMaps

abbrev okl16 : ByteArray := ⟨#[42, 32, 79, 75, 13, 10]⟩
abbrev snw16 : Value := snv ⟨#[]⟩ okl16 false false 0 (.slice none 0 0)
abbrev sv1 (y : Int) : Value := svw y 0 (.slice none 0 0) (.slice none 0 0) ⟨#[]⟩ 0 ⟨#[]⟩ okl16 false false 0 (.slice none 0 0) true
theorem specSnNew16 (w : World) : Calls Try.prog 18 #[] w fun e w' => e = .returned snw16 ∧ Below w.heap.size w w' := by
  have d := (Sn.new w 29 ⟨#[]⟩ okl16 false false 0 (.slice none 0 0)).cells
  have Z0 := hid (Sn.new w 29 ⟨#[]⟩ ⟨#[]⟩ false false 0 (.slice none 0 0))
  have c := Z0.out.cells
  have f := Z0.out.loose
  go_enter Try.func18, Try.ntmps18
  go_wp2
  exact bodyPost_ret (v := snw16) (by simp [results, Try.results18, go_sem, d]) rfl ⟨rfl, bpush (bre _) _⟩

set_option maxHeartbeats 1600000 in
set_option maxRecDepth 100000 in
theorem specSvNew (y : Int) (w : World) : Calls Try.prog 6 #[.int .i64 y] w fun e w' => e = .returned (sv1 y) ∧ Below w.heap.size w w' := by
  have Z0 := hid (Vx.new w 31 0 0 (.slice none 0 0) (.slice none 0 0) ⟨#[]⟩ 0 ⟨#[]⟩ ⟨#[]⟩ false false 0 (.slice none 0 0) false)
  have B0 := hid (bpush (bre w) (.cells sv0 31))
  have hlt : Hid (w.heap.size ≤ w.heap.size) := Nat.le_refl _
  go_enter Try.func6, Try.ntmps6
  go_wp2_with fail
  refine (specKeptNew_any y _).mono ?_; rintro e w1 ⟨rfl, hb⟩
  have Z0 := hid (Z0.out.later hb)
  have B0 := hid (btr B0.out hb)
  clear hb
  go_wp2_with fail
  refine (specSnNew16 _).mono ?_; rintro e w2 ⟨rfl, hb⟩
  have Z0 := hid (Z0.out.later hb)
  have B0 := hid (btr B0.out hb)
  have c0 := Z0.out.cells
  have f0 := Z0.out.loose
  clear hb
  go_wp2
  have g1 := putV_grown w2 w.heap.size y 0 (.slice none 0 0) (.slice none 0 0) ⟨#[]⟩ 0 ⟨#[]⟩ okl16 false false 0 (.slice none 0 0) true
  have d := (Z0.out.putV y 0 (.slice none 0 0) (.slice none 0 0) ⟨#[]⟩ 0 ⟨#[]⟩ okl16 false false 0 (.slice none 0 0) true).cells
  unfold putV at g1 d
  refine bodyPost_ret (v := sv1 y) (by simp [results, Try.results6, go_sem, d]) rfl ⟨rfl, B0.out.trans (below_of_grown g1 (Nat.le_refl _) B0.out.size)⟩

set_option maxHeartbeats 1600000 in
set_option maxRecDepth 100000 in
theorem implSvNew (y : Int) (w : World) : Calls Try.prog 7 #[.int .i64 y] w fun e w' => e = .returned (sv1 y) ∧ Below w.heap.size w w' := by
  have Z0 := hid (Vx.new w 31 0 0 (.slice none 0 0) (.slice none 0 0) ⟨#[]⟩ 0 ⟨#[]⟩ ⟨#[]⟩ false false 0 (.slice none 0 0) false)
  have B0 := hid (bpush (bre w) (.cells sv0 31))
  have hlt : Hid (w.heap.size ≤ w.heap.size) := Nat.le_refl _
  go_enter Try.func7, Try.ntmps7
  go_wp2_with fail
  refine (implKeptNew_any y _).mono ?_; rintro e w1 ⟨rfl, hb⟩
  have Z0 := hid (Z0.out.later hb)
  have B0 := hid (btr B0.out hb)
  clear hb
  go_wp2_with fail
  refine (implSnNew_any _).mono ?_; rintro e w2 ⟨rfl, hb⟩
  have Z0 := hid (Z0.out.later hb)
  have B0 := hid (btr B0.out hb)
  have c0 := Z0.out.cells
  have f0 := Z0.out.loose
  clear hb
  go_wp2
  have g1 := putV_grown w2 w.heap.size y 0 (.slice none 0 0) (.slice none 0 0) ⟨#[]⟩ 0 ⟨#[]⟩ okl16 false false 0 (.slice none 0 0) true
  have d := (Z0.out.putV y 0 (.slice none 0 0) (.slice none 0 0) ⟨#[]⟩ 0 ⟨#[]⟩ okl16 false false 0 (.slice none 0 0) true).cells
  unfold putV at g1 d
  refine bodyPost_ret (v := sv1 y) (by simp [results, Try.results7, go_sem, d]) rfl ⟨rfl, B0.out.trans (below_of_grown g1 (Nat.le_refl _) B0.out.size)⟩

theorem sm_nil16 : Sm16 0 0 0 [] [] [] := ⟨rfl, by decide, (by intro x hx; cases hx), rfl, by decide, rfl, by decide, by show (1 : Nat) ≤ _; decide⟩
theorem rv_nil16 (W : World) : Rv W none none none [] [] [] := ⟨⟨0, W.heap.size, Nat.le_refl _, fun _ h => absurd h (Nat.not_lt_zero _)⟩, ⟨0, W.heap.size, Nat.le_refl _, fun _ h => absurd h (Nat.not_lt_zero _)⟩, ⟨0, W.heap.size, Nat.le_refl _, fun _ h => absurd h (Nat.not_lt_zero _)⟩⟩
theorem owr_nil16 (W : World) : OwR W W.heap.size W.heap.size (.slice none 0 0) (.slice none 0 0) (.slice none 0 0) [] [] [] :=
  ⟨W.heap.size, ⟨[], rfl, ⟨⟨rfl, Or.inl ⟨rfl, rfl⟩⟩, (by intro y h; cases h), (by intro y h; cases h), List.Pairwise.nil⟩, ⟨rfl, Or.inl ⟨rfl, rfl⟩⟩, (by intro j h; cases h), (by intro y h; cases h), (by intro j h; cases h), (by intro j h; cases h), (by intro y h; cases h)⟩, ⟨rfl, Or.inl ⟨rfl, rfl⟩⟩, Nat.le_refl _, Nat.le_refl _, (by intro j h; cases h)⟩
theorem eSv0 (y : Int) (W : World) : Calls Try.prog 8 #[sv1 y, sv1 y] W fun e w' => e = .returned (.bool true) ∧ Below W.heap.size W w' :=
  eqSv_any y 0 none 0 0 none 0 0 none 0 none 0 ⟨#[]⟩ 0 ⟨#[]⟩ okl16 false false 0 none 0 0 none 0 true [] [] [] W sm_nil16 (rv_nil16 W) (rv_nil16 W)
theorem mSv0 (y : Int) (W : World) : Calls Try.prog 9 #[sv1 y, .int .i64 1] W fun e w' => e = .returned (.int .i64 1) ∧ Below W.heap.size W w' :=
  (markSv_any W.heap.size W.heap.size y 0 none 0 0 none 0 0 ⟨#[]⟩ 0 ⟨#[]⟩ okl16 false false 0 none 0 0 true [] [] [] W sm_nil16 (owr_nil16 W) (Nat.le_refl _)).mono fun _ _ h => ⟨h.1, h.2.2.below16 (Nat.le_refl _) (fun _ a => a.1)⟩
theorem hSv0 (y : Int) (W : World) : Calls Try.prog 10 #[sv1 y, .int .i64 1] W fun e w' => e = .returned (.int .i64 1) ∧ Below W.heap.size W w' :=
  heldSv_any W.heap.size W.heap.size y 0 none 0 0 none 0 0 ⟨#[]⟩ 0 ⟨#[]⟩ okl16 false false 0 none 0 0 true [] [] [] W sm_nil16 (owr_nil16 W)

set_option maxHeartbeats 6400000 in
set_option maxRecDepth 100000 in
theorem lawSvNew_any (y : Int) (w : World) : Calls Try.prog 3 #[.int .i64 y] w fun e w' => e = .returned (.bool true) ∧ Below w.heap.size w w' := by
  have CS := hid (fun (W : World) => specSvNew y W)
  have CI := hid (fun (W : World) => implSvNew y W)
  have CE := hid (fun (W : World) => eSv0 y W)
  have CM := hid (fun (W : World) => mSv0 y W)
  have CH := hid (fun (W : World) => hSv0 y W)
  have BE := hid (bre w)
  go_enter Try.func3, Try.ntmps3
  go_wp2_with fail
  refine (CS.out _).mono ?_; rintro e w1 ⟨rfl, hb⟩
  obtain ⟨kS1, hkS1⟩ : ∃ x, w1.heap.size = x := ⟨_, rfl⟩
  have xS1 : Vx (w1.alloc (.cells #[.int .i64 y, .int .i64 0, .slice none 0 0, .slice none 0 0, .string ⟨#[]⟩, .int .i64 0, .string ⟨#[]⟩, .string okl16, .bool false, .bool false, .int .i64 0, .slice none 0 0, .bool true] 31)) kS1 31 y 0 (.slice none 0 0) (.slice none 0 0) ⟨#[]⟩ 0 ⟨#[]⟩ okl16 false false 0 (.slice none 0 0) true := by rw [← hkS1]; exact Vx.new _ _ _ _ _ _ _ _ _ _ _ _ _ _ _ 
  have hb2 := btr hb (bpush (bre w1) (.cells #[.int .i64 y, .int .i64 0, .slice none 0 0, .slice none 0 0, .string ⟨#[]⟩, .int .i64 0, .string ⟨#[]⟩, .string okl16, .bool false, .bool false, .int .i64 0, .slice none 0 0, .bool true] 31))
  have BE := hid (btr BE.out hb2)
  have mS1 := xS1.cells; have nS1 := xS1.loose; have S1 := hid xS1; clear xS1 hb hb2
  go_wp2_with fail
  obtain ⟨w1b, hw1b⟩ : ∃ W, w1.alloc (.cells #[.int .i64 y, .int .i64 0, .slice none 0 0, .slice none 0 0, .string ⟨#[]⟩, .int .i64 0, .string ⟨#[]⟩, .string okl16, .bool false, .bool false, .int .i64 0, .slice none 0 0, .bool true] 31) = W := ⟨_, rfl⟩
  rw [hw1b] at S1 BE ⊢
  clear hw1b hkS1 mS1 nS1
  refine (CI.out _).mono ?_; rintro e w2 ⟨rfl, hb⟩
  obtain ⟨kG1, hkG1⟩ : ∃ x, w2.heap.size = x := ⟨_, rfl⟩
  have xG1 : Vx (w2.alloc (.cells #[.int .i64 y, .int .i64 0, .slice none 0 0, .slice none 0 0, .string ⟨#[]⟩, .int .i64 0, .string ⟨#[]⟩, .string okl16, .bool false, .bool false, .int .i64 0, .slice none 0 0, .bool true] 31)) kG1 31 y 0 (.slice none 0 0) (.slice none 0 0) ⟨#[]⟩ 0 ⟨#[]⟩ okl16 false false 0 (.slice none 0 0) true := by rw [← hkG1]; exact Vx.new _ _ _ _ _ _ _ _ _ _ _ _ _ _ _ 
  have hb2 := btr hb (bpush (bre w2) (.cells #[.int .i64 y, .int .i64 0, .slice none 0 0, .slice none 0 0, .string ⟨#[]⟩, .int .i64 0, .string ⟨#[]⟩, .string okl16, .bool false, .bool false, .int .i64 0, .slice none 0 0, .bool true] 31))
  have S1 := hid (S1.out.later hb2)
  have BE := hid (btr BE.out hb2)
  have mG1 := xG1.cells; have nG1 := xG1.loose; have G1 := hid xG1; clear xG1 hb hb2
  have q0 := G1.out.cells
  have q1 := S1.out.cells
  go_wp2_with fail
  clear q0 q1
  obtain ⟨w2b, hw2b⟩ : ∃ W, w2.alloc (.cells #[.int .i64 y, .int .i64 0, .slice none 0 0, .slice none 0 0, .string ⟨#[]⟩, .int .i64 0, .string ⟨#[]⟩, .string okl16, .bool false, .bool false, .int .i64 0, .slice none 0 0, .bool true] 31) = W := ⟨_, rfl⟩
  rw [hw2b] at S1 G1 BE ⊢
  clear hw2b hkG1 mG1 nG1
  refine (CE.out _).mono ?_; rintro e w3 ⟨rfl, hb⟩
  have S1 := hid (S1.out.later hb)
  have G1 := hid (G1.out.later hb)
  have BE := hid (btr BE.out hb)
  clear hb
  have q0 := G1.out.cells
  go_wp2_with fail
  clear q0
  refine (CM.out _).mono ?_; rintro e w4 ⟨rfl, hb⟩
  have S1 := hid (S1.out.later hb)
  have G1 := hid (G1.out.later hb)
  have BE := hid (btr BE.out hb)
  clear hb
  have q0 := G1.out.cells
  go_wp2_with fail
  clear q0
  refine (CH.out _).mono ?_; rintro e w5 ⟨rfl, hb⟩
  have S1 := hid (S1.out.later hb)
  have G1 := hid (G1.out.later hb)
  have BE := hid (btr BE.out hb)
  clear hb
  go_wp2_with fail
  refine (CI.out _).mono ?_; rintro e w6 ⟨rfl, hb⟩
  obtain ⟨kH1, hkH1⟩ : ∃ x, w6.heap.size = x := ⟨_, rfl⟩
  have xH1 : Vx (w6.alloc (.cells #[.int .i64 y, .int .i64 0, .slice none 0 0, .slice none 0 0, .string ⟨#[]⟩, .int .i64 0, .string ⟨#[]⟩, .string okl16, .bool false, .bool false, .int .i64 0, .slice none 0 0, .bool true] 31)) kH1 31 y 0 (.slice none 0 0) (.slice none 0 0) ⟨#[]⟩ 0 ⟨#[]⟩ okl16 false false 0 (.slice none 0 0) true := by rw [← hkH1]; exact Vx.new _ _ _ _ _ _ _ _ _ _ _ _ _ _ _ 
  have hb2 := btr hb (bpush (bre w6) (.cells #[.int .i64 y, .int .i64 0, .slice none 0 0, .slice none 0 0, .string ⟨#[]⟩, .int .i64 0, .string ⟨#[]⟩, .string okl16, .bool false, .bool false, .int .i64 0, .slice none 0 0, .bool true] 31))
  have S1 := hid (S1.out.later hb2)
  have G1 := hid (G1.out.later hb2)
  have BE := hid (btr BE.out hb2)
  have mH1 := xH1.cells; have nH1 := xH1.loose; have H1 := hid xH1; clear xH1 hb hb2
  have q0 := H1.out.cells
  have q1 := S1.out.cells
  go_wp2_with fail
  clear q0 q1
  obtain ⟨w6b, hw6b⟩ : ∃ W, w6.alloc (.cells #[.int .i64 y, .int .i64 0, .slice none 0 0, .slice none 0 0, .string ⟨#[]⟩, .int .i64 0, .string ⟨#[]⟩, .string okl16, .bool false, .bool false, .int .i64 0, .slice none 0 0, .bool true] 31) = W := ⟨_, rfl⟩
  rw [hw6b] at S1 G1 H1 BE ⊢
  clear hw6b hkH1 mH1 nH1
  refine (CE.out _).mono ?_; rintro e w7 ⟨rfl, hb⟩
  have S1 := hid (S1.out.later hb)
  have G1 := hid (G1.out.later hb)
  have H1 := hid (H1.out.later hb)
  have BE := hid (btr BE.out hb)
  clear hb
  have q0 := G1.out.cells
  go_wp2_with fail
  clear q0
  refine (CH.out _).mono ?_; rintro e w8 ⟨rfl, hb⟩
  have S1 := hid (S1.out.later hb)
  have G1 := hid (G1.out.later hb)
  have H1 := hid (H1.out.later hb)
  have BE := hid (btr BE.out hb)
  clear hb
  go_wp2
  go_ret
  exact ⟨rfl, BE.out⟩
end Go.Proofs.Ytckenihadlmlaaa
