/- Servers: risen, and fed. -/
import Derived.Test.YtckenihadlmlaaaXvc
namespace Go.Proofs.Ytckenihadlmlaaa
open Go.RowKit Go.ChangeMaps
/-- In, behind FeedServer. -/
def vfi (i t : ByteArray) (r u : Bool) : ByteArray := if u = true then fsi i t r else i
def vfo (i t : ByteArray) (r u : Bool) : Bool := if u = true then fso i t r else false

set_option maxHeartbeats 3200000 in
set_option maxRecDepth 100000 in
theorem specRise_any (y tm : Int) (km bn kg gn : Nat) (jr : ByteArray) (sv : Int) (i o : ByteArray) (n r : Bool) (b : Int) (kv vn : Nat) (u : Bool) (S : List X7) (G V : List Int) (w : World) (H : Sm16 bn gn vn S G V) (R : Rv w (some ⟨km, 0, none⟩) (some ⟨kg, 0, none⟩) (some ⟨kv, 0, none⟩) S G V) :
    Calls Try.prog 15 #[svw y tm (.slice (some ⟨km, 0, none⟩) bn bn) (.slice (some ⟨kg, 0, none⟩) gn gn) jr sv i o n r b (.slice (some ⟨kv, 0, none⟩) vn vn) u] w fun e w' => ∃ a c a' c' x z, e = .returned (svw y tm (.slice a bn c) (.slice a' gn c') jr sv i o n r b (.slice x vn z) true) ∧ OwR w' w.heap.size w'.heap.size (.slice a bn c) (.slice a' gn c') (.slice x vn z) S G V ∧ Below w.heap.size w w' := by
  obtain ⟨W0, hW0⟩ : ∃ W0, (w.alloc (.cells #[.int .i64 y, .int .i64 tm, .slice (some ⟨km, 0, none⟩) bn bn, .slice (some ⟨kg, 0, none⟩) gn gn, .string jr, .int .i64 sv, .string i, .string o, .bool n, .bool r, .int .i64 b, .slice (some ⟨kv, 0, none⟩) vn vn, .bool u] 31)).alloc (.cells sv0 31) = W0 := ⟨_, rfl⟩
  have b0 : Below w.heap.size w W0 := by subst hW0; exact bpush (bpush (bre _) _) _
  have a0 : Vx W0 w.heap.size 31 y tm (.slice (some ⟨km, 0, none⟩) bn bn) (.slice (some ⟨kg, 0, none⟩) gn gn) jr sv i o n r b (.slice (some ⟨kv, 0, none⟩) vn vn) u := by subst hW0; exact (Vx.new w _ _ _ _ _ _ _ _ _ _ _ _ _ _ ).later (bpush (bre _) _)
  have a1 : Vx W0 (w.heap.size + 1) 31 0 0 (.slice none 0 0) (.slice none 0 0) ⟨#[]⟩ 0 ⟨#[]⟩ ⟨#[]⟩ false false 0 (.slice none 0 0) false := by
    have h := Vx.new (w.alloc (.cells #[.int .i64 y, .int .i64 tm, .slice (some ⟨km, 0, none⟩) bn bn, .slice (some ⟨kg, 0, none⟩) gn gn, .string jr, .int .i64 sv, .string i, .string o, .bool n, .bool r, .int .i64 b, .slice (some ⟨kv, 0, none⟩) vn vn, .bool u] 31)) 31 0 0 (.slice none 0 0) (.slice none 0 0) ⟨#[]⟩ 0 ⟨#[]⟩ ⟨#[]⟩ false false 0 (.slice none 0 0) false
    rw [hW0] at h
    simpa using h
  have HC := hid (specCopy16_any y tm km bn kg gn jr sv i o n r b kv vn u S G V W0 H (R.later b0))
  have A0 := hid a0
  have A1 := hid a1
  have B0 := hid b0
  have HW := hid hW0
  have c0 := a0.cells
  clear a0 a1 b0 hW0 H R
  go_enter Try.func15, Try.ntmps15
  go_wp2_with fail
  rw [HW.out]
  clear HW
  refine HC.out.mono ?_; rintro e w1 ⟨a, c, a', c', x, z, rfl, ho, hb⟩
  have LW : Hid (w.heap.size + 1 < W0.heap.size) := hid A1.out.lt
  have L1 : Hid (W0.heap.size ≤ w1.heap.size) := hid hb.size
  obtain ⟨w2, hw2⟩ : ∃ W, w1.alloc (.cells #[.int .i64 y, .int .i64 tm, .slice a bn c, .slice a' gn c', .string jr, .int .i64 sv, .string i, .string o, .bool n, .bool r, .int .i64 b, .slice x vn z, .bool u] 31) = W := ⟨_, rfl⟩
  have b2 : Below w1.heap.size w1 w2 := by subst hw2; exact bpush (bre _) _
  have x2 : Vx w2 w1.heap.size 31 y tm (.slice a bn c) (.slice a' gn c') jr sv i o n r b (.slice x vn z) u := by subst hw2; exact Vx.new w1 _ _ _ _ _ _ _ _ _ _ _ _ _ _ 
  have O2 := hid (ho.later b2)
  have A0 := hid ((A0.out.later hb).later b2)
  have A1 := hid ((A1.out.later hb).later b2)
  have A2 := hid x2
  have B0 := hid (btr (btr B0.out hb) b2)
  have c0 := A0.out.cells
  have c2 := x2.cells
  have f2 := x2.loose
  have c1 := A1.out.cells
  have f1 := A1.out.loose
  clear ho hb b2 x2 HC
  have hl : w.heap.size + 1 < w1.heap.size := by have h1 := LW.out; have h2 := L1.out; omega
  go_wp2
  have hl1 := L1.out
  have hl0 := LW.out
  have g2 := wst (wre w2 (some w1.heap.size)) 12 (.bool true)
  have g3 := putV_grown (w2.setCell ⟨w1.heap.size, 12, none⟩ (.bool true)) (w.heap.size + 1) y tm (.slice a bn c) (.slice a' gn c') jr sv i o n r b (.slice x vn z) true
  have d := ((A1.out.grown g2 (by simp; omega)).putV y tm (.slice a bn c) (.slice a' gn c') jr sv i o n r b (.slice x vn z) true).cells
  unfold putV at g3 d
  have lt2 : w1.heap.size < w2.heap.size := A2.out.lt
  refine bodyPost_ret (v := svw y tm (.slice a bn c) (.slice a' gn c') jr sv i o n r b (.slice x vn z) true) (by simp [results, Try.results15, go_sem, d]) rfl ⟨_, _, _, _, _, _, rfl, ?_, ?_⟩
  · exact (((O2.out.grown g2 (Or.inr (Nat.le_refl _))).grown g3 (Or.inl (by omega))).base (by omega)).top (by have := g2.size; have := g3.size; omega)
  · exact B0.out.trans ((below_of_grown g2 (by omega) B0.out.size).trans (below_of_grown g3 (by omega) (Nat.le_trans B0.out.size g2.size)))

set_option maxHeartbeats 3200000 in
set_option maxRecDepth 100000 in
theorem implRise_any (y tm : Int) (km bn kg gn : Nat) (jr : ByteArray) (sv : Int) (i o : ByteArray) (n r : Bool) (b : Int) (kv vn : Nat) (u : Bool) (S : List X7) (G V : List Int) (w : World) (H : Sm16 bn gn vn S G V) (R : Rv w (some ⟨km, 0, none⟩) (some ⟨kg, 0, none⟩) (some ⟨kv, 0, none⟩) S G V) (hjr : jr.size ≤ 1048576) (hi1 : i.size ≤ 1048576) (ho1 : o.size ≤ 1048576) :
    Calls Try.prog 16 #[svw y tm (.slice (some ⟨km, 0, none⟩) bn bn) (.slice (some ⟨kg, 0, none⟩) gn gn) jr sv i o n r b (.slice (some ⟨kv, 0, none⟩) vn vn) u] w fun e w' => ∃ a c a' c' x z, e = .returned (svw y tm (.slice a bn c) (.slice a' gn c') jr sv i o n r b (.slice x vn z) true) ∧ OwR w' w.heap.size w'.heap.size (.slice a bn c) (.slice a' gn c') (.slice x vn z) S G V ∧ Below w.heap.size w w' := by
  obtain ⟨W0, hW0⟩ : ∃ W0, (w.alloc (.cells #[.int .i64 y, .int .i64 tm, .slice (some ⟨km, 0, none⟩) bn bn, .slice (some ⟨kg, 0, none⟩) gn gn, .string jr, .int .i64 sv, .string i, .string o, .bool n, .bool r, .int .i64 b, .slice (some ⟨kv, 0, none⟩) vn vn, .bool u] 31)).alloc (.cells sv0 31) = W0 := ⟨_, rfl⟩
  have b0 : Below w.heap.size w W0 := by subst hW0; exact bpush (bpush (bre _) _) _
  have a0 : Vx W0 w.heap.size 31 y tm (.slice (some ⟨km, 0, none⟩) bn bn) (.slice (some ⟨kg, 0, none⟩) gn gn) jr sv i o n r b (.slice (some ⟨kv, 0, none⟩) vn vn) u := by subst hW0; exact (Vx.new w _ _ _ _ _ _ _ _ _ _ _ _ _ _ ).later (bpush (bre _) _)
  have a1 : Vx W0 (w.heap.size + 1) 31 0 0 (.slice none 0 0) (.slice none 0 0) ⟨#[]⟩ 0 ⟨#[]⟩ ⟨#[]⟩ false false 0 (.slice none 0 0) false := by
    have h := Vx.new (w.alloc (.cells #[.int .i64 y, .int .i64 tm, .slice (some ⟨km, 0, none⟩) bn bn, .slice (some ⟨kg, 0, none⟩) gn gn, .string jr, .int .i64 sv, .string i, .string o, .bool n, .bool r, .int .i64 b, .slice (some ⟨kv, 0, none⟩) vn vn, .bool u] 31)) 31 0 0 (.slice none 0 0) (.slice none 0 0) ⟨#[]⟩ 0 ⟨#[]⟩ ⟨#[]⟩ false false 0 (.slice none 0 0) false
    rw [hW0] at h
    simpa using h
  have HC := hid (implCopy16_any y tm km bn kg gn jr sv i o n r b kv vn u S G V W0 H (R.later b0) hjr hi1 ho1)
  have A0 := hid a0
  have A1 := hid a1
  have B0 := hid b0
  have HW := hid hW0
  have c0 := a0.cells
  clear a0 a1 b0 hW0 H R hjr hi1 ho1
  go_enter Try.func16, Try.ntmps16
  go_wp2_with fail
  rw [HW.out]
  clear HW
  refine HC.out.mono ?_; rintro e w1 ⟨a, c, a', c', x, z, rfl, ho, hb⟩
  have LW : Hid (w.heap.size + 1 < W0.heap.size) := hid A1.out.lt
  have L1 : Hid (W0.heap.size ≤ w1.heap.size) := hid hb.size
  obtain ⟨w2, hw2⟩ : ∃ W, w1.alloc (.cells #[.int .i64 y, .int .i64 tm, .slice a bn c, .slice a' gn c', .string jr, .int .i64 sv, .string i, .string o, .bool n, .bool r, .int .i64 b, .slice x vn z, .bool u] 31) = W := ⟨_, rfl⟩
  have b2 : Below w1.heap.size w1 w2 := by subst hw2; exact bpush (bre _) _
  have x2 : Vx w2 w1.heap.size 31 y tm (.slice a bn c) (.slice a' gn c') jr sv i o n r b (.slice x vn z) u := by subst hw2; exact Vx.new w1 _ _ _ _ _ _ _ _ _ _ _ _ _ _ 
  have O2 := hid (ho.later b2)
  have A0 := hid ((A0.out.later hb).later b2)
  have A1 := hid ((A1.out.later hb).later b2)
  have A2 := hid x2
  have B0 := hid (btr (btr B0.out hb) b2)
  have c0 := A0.out.cells
  have c2 := x2.cells
  have f2 := x2.loose
  have c1 := A1.out.cells
  have f1 := A1.out.loose
  clear ho hb b2 x2 HC
  have hl : w.heap.size + 1 < w1.heap.size := by have h1 := LW.out; have h2 := L1.out; omega
  go_wp2
  have hl1 := L1.out
  have hl0 := LW.out
  have g2 := wst (wre w2 (some w1.heap.size)) 12 (.bool true)
  have g3 := putV_grown (w2.setCell ⟨w1.heap.size, 12, none⟩ (.bool true)) (w.heap.size + 1) y tm (.slice a bn c) (.slice a' gn c') jr sv i o n r b (.slice x vn z) true
  have d := ((A1.out.grown g2 (by simp; omega)).putV y tm (.slice a bn c) (.slice a' gn c') jr sv i o n r b (.slice x vn z) true).cells
  unfold putV at g3 d
  have lt2 : w1.heap.size < w2.heap.size := A2.out.lt
  refine bodyPost_ret (v := svw y tm (.slice a bn c) (.slice a' gn c') jr sv i o n r b (.slice x vn z) true) (by simp [results, Try.results16, go_sem, d]) rfl ⟨_, _, _, _, _, _, rfl, ?_, ?_⟩
  · exact (((O2.out.grown g2 (Or.inr (Nat.le_refl _))).grown g3 (Or.inl (by omega))).base (by omega)).top (by have := g2.size; have := g3.size; omega)
  · exact B0.out.trans ((below_of_grown g2 (by omega) B0.out.size).trans (below_of_grown g3 (by omega) (Nat.le_trans B0.out.size g2.size)))

set_option maxHeartbeats 6400000 in
set_option maxRecDepth 100000 in
theorem specFeedV (y tm : Int) (km bn kg gn : Nat) (jr : ByteArray) (sv : Int) (i o : ByteArray) (n r : Bool) (b : Int) (kv vn : Nat) (u : Bool) (t : ByteArray) (S : List X7) (G V : List Int) (w : World) (H : Sm16 bn gn vn S G V) (R : Rv w (some ⟨km, 0, none⟩) (some ⟨kg, 0, none⟩) (some ⟨kv, 0, none⟩) S G V) (hi1 : i.size ≤ 1048576) (ht1 : t.size ≤ 1048576) :
    Calls Try.prog 12 #[svw y tm (.slice (some ⟨km, 0, none⟩) bn bn) (.slice (some ⟨kg, 0, none⟩) gn gn) jr sv i o n r b (.slice (some ⟨kv, 0, none⟩) vn vn) u, .string t] w fun e w' => ∃ a c a' c' x z, e = .returned (.tuple #[svw y tm (.slice a bn c) (.slice a' gn c') jr sv (vfi i t r u) o n r b (.slice x vn z) u, .bool (vfo i t r u)]) ∧ OwR w' w.heap.size w'.heap.size (.slice a bn c) (.slice a' gn c') (.slice x vn z) S G V ∧ Below w.heap.size w w' := by
  have HF := hid (fun (W : World) (hb : Below w.heap.size w W) => by
    obtain ⟨_, _, ⟨_, _, x3⟩⟩ := R.later hb
    exact specFeed_any _ _ i o n r b (some ⟨kv, 0, none⟩) vn vn V t W hi1 ht1 H.vl H.vs x3 (by intro h; cases h))
  obtain ⟨I, hI⟩ : ∃ I, vfi i t r u = I := ⟨_, rfl⟩
  obtain ⟨k, hk⟩ : ∃ k, vfo i t r u = k := ⟨_, rfl⟩
  rw [hI, hk]
  have HI := hid hI
  have HQ := hid hk
  clear hI hk
  obtain ⟨W0, hW0⟩ : ∃ W0, (w.alloc (.cells #[.int .i64 y, .int .i64 tm, .slice (some ⟨km, 0, none⟩) bn bn, .slice (some ⟨kg, 0, none⟩) gn gn, .string jr, .int .i64 sv, .string i, .string o, .bool n, .bool r, .int .i64 b, .slice (some ⟨kv, 0, none⟩) vn vn, .bool u] 31)).alloc (.cells sv0 31) = W0 := ⟨_, rfl⟩
  have b0 : Below w.heap.size w W0 := by subst hW0; exact bpush (bpush (bre _) _) _
  have a0 : Vx W0 w.heap.size 31 y tm (.slice (some ⟨km, 0, none⟩) bn bn) (.slice (some ⟨kg, 0, none⟩) gn gn) jr sv i o n r b (.slice (some ⟨kv, 0, none⟩) vn vn) u := by subst hW0; exact (Vx.new w _ _ _ _ _ _ _ _ _ _ _ _ _ _ ).later (bpush (bre _) _)
  have a1 : Vx W0 (w.heap.size + 1) 31 0 0 (.slice none 0 0) (.slice none 0 0) ⟨#[]⟩ 0 ⟨#[]⟩ ⟨#[]⟩ false false 0 (.slice none 0 0) false := by
    have h := Vx.new (w.alloc (.cells #[.int .i64 y, .int .i64 tm, .slice (some ⟨km, 0, none⟩) bn bn, .slice (some ⟨kg, 0, none⟩) gn gn, .string jr, .int .i64 sv, .string i, .string o, .bool n, .bool r, .int .i64 b, .slice (some ⟨kv, 0, none⟩) vn vn, .bool u] 31)) 31 0 0 (.slice none 0 0) (.slice none 0 0) ⟨#[]⟩ 0 ⟨#[]⟩ ⟨#[]⟩ false false 0 (.slice none 0 0) false
    rw [hW0] at h
    simpa using h
  have HC := hid (specCopy16_any y tm km bn kg gn jr sv i o n r b kv vn u S G V W0 H (R.later b0))
  have A0 := hid a0
  have A1 := hid a1
  have B0 := hid b0
  have HW := hid hW0
  have c0 := a0.cells
  clear a0 a1 b0 hW0 H R
  clear hi1 ht1
  go_enter Try.func12, Try.ntmps12
  go_wp2_with fail
  rw [HW.out]
  clear HW
  refine HC.out.mono ?_; rintro e w1 ⟨a, c, a', c', x, z, rfl, ho, hb⟩
  have LW : Hid (w.heap.size + 1 < W0.heap.size) := hid A1.out.lt
  have L1 : Hid (W0.heap.size ≤ w1.heap.size) := hid hb.size
  obtain ⟨w2, hw2⟩ : ∃ W, w1.alloc (.cells #[.int .i64 y, .int .i64 tm, .slice a bn c, .slice a' gn c', .string jr, .int .i64 sv, .string i, .string o, .bool n, .bool r, .int .i64 b, .slice x vn z, .bool u] 31) = W := ⟨_, rfl⟩
  have b2 : Below w1.heap.size w1 w2 := by subst hw2; exact bpush (bre _) _
  have x2 : Vx w2 w1.heap.size 31 y tm (.slice a bn c) (.slice a' gn c') jr sv i o n r b (.slice x vn z) u := by subst hw2; exact Vx.new w1 _ _ _ _ _ _ _ _ _ _ _ _ _ _ 
  have O2 := hid (ho.later b2)
  have A0 := hid ((A0.out.later hb).later b2)
  have A1 := hid ((A1.out.later hb).later b2)
  have A2 := hid x2
  have B0 := hid (btr (btr B0.out hb) b2)
  have c0 := A0.out.cells
  have c2 := x2.cells
  have f2 := x2.loose
  have c1 := A1.out.cells
  have f1 := A1.out.loose
  clear ho hb b2 x2 HC
  have L2 : Hid (w1.heap.size < w2.heap.size) := hid A2.out.lt
  go_upto_region 2 with fail
  clear hw2
  cases u with
  | false =>
    clear HF
    obtain rfl : i = I := HI.out
    obtain rfl : false = k := HQ.out
    go_wp2
    have hl := LW.out
    have hl1 := L1.out
    have hl2 := L2.out
    have g3 := putV_grown w2 (w.heap.size + 1) y tm (.slice a bn c) (.slice a' gn c') jr sv i o n r b (.slice x vn z) false
    have d := (A1.out.putV y tm (.slice a bn c) (.slice a' gn c') jr sv i o n r b (.slice x vn z) false).cells
    unfold putV at g3 d
    refine bodyPost_ret (v := .tuple #[svw y tm (.slice a bn c) (.slice a' gn c') jr sv i o n r b (.slice x vn z) false, .bool false]) (by simp [results, Try.results12, go_sem, d]) rfl ⟨_, _, _, _, _, _, rfl, ?_, ?_⟩
    · exact ((O2.out.grown g3 (Or.inl (by omega))).base (by omega)).top (by have := g3.size; omega)
    · exact B0.out.trans (below_of_grown g3 (by omega) B0.out.size)
  | true =>
    have hI : fsi i t r = I := HI.out
    have hk : fso i t r = k := HQ.out
    rw [hI, hk] at HF
    clear hI hk HI HQ
    go_wp2_with fail
    clear c0 c1 c2 f1 f2
    refine (HF.out _ B0.out).mono ?_; rintro e w3 ⟨x', z', rfl, ho, hb⟩
    obtain ⟨w4, hw4⟩ : ∃ W, w3.alloc (.cells #[.string I, .string o, .bool n, .bool r, .int .i64 b, .slice x' vn z'] 29) = W := ⟨_, rfl⟩
    have b4 : Below w3.heap.size w3 w4 := by subst hw4; exact bpush (bre _) _
    have s4 : Sn w4 w3.heap.size 29 I o n r b (.slice x' vn z') := by subst hw4; exact Sn.new w3 _ _ _ _ _ _ _
    have A1 := hid ((A1.out.later hb).later b4)
    have A2 := hid ((A2.out.later hb).later b4)
    have L3 : Hid (w2.heap.size ≤ w3.heap.size) := hid hb.size
    have L4 : Hid (w3.heap.size ≤ w4.heap.size) := hid b4.size
    obtain ⟨m, u1, u2, u3, u4, u5⟩ := O2.out
    have U4 := hid ((u1.later hb).later b4)
    have V4 : Hid (OwI w4 w2.heap.size (.slice x' vn z') V) := hid (own_later ho b4)
    have VL : Hid (∀ j, Value.ownBlock (.slice x' vn z') = some j → w2.heap.size ≤ j ∧ j < w3.heap.size) := hid (fun j hj => World.ownsRow.lt ho j hj)
    have M4 := hid (And.intro u3 u4)
    have B0 := hid (btr (btr B0.out hb) b4)
    have c1 := A1.out.cells
    have f1 := A1.out.loose
    have c2 := A2.out.cells
    have f2 := A2.out.loose
    have c4 := s4.cells
    clear ho hb b4 s4 u1 u2 u3 u4 u5 O2 HF
    have hl : w.heap.size + 1 < w1.heap.size := by have h1 := LW.out; have h2 := L1.out; omega
    go_upto_region 6 with fail
    clear hw4
    obtain ⟨V1, hV1⟩ : ∃ W, putS w4 w1.heap.size I o n r b (.slice x' vn z') = W := ⟨_, rfl⟩
    have g2 := putS_grown w4 w1.heap.size I o n r b (.slice x' vn z')
    have y2 := A2.out.putS I o n r b (.slice x' vn z')
    rw [hV1] at g2 y2
    unfold putS at hV1
    rw [hV1]
    have hl1 := L1.out
    have hl0 := LW.out
    have hl2 := L2.out
    have hl3 := L3.out
    have hl4 := L4.out
    have hm := M4.out
    have A1 := hid (A1.out.grown g2 (by simp; omega))
    have OR : OwR V1 W0.heap.size w4.heap.size (.slice a bn c) (.slice a' gn c') (.slice x' vn z') S G V :=
      ⟨m, U4.out.chg (P := fun j => j = w1.heap.size) (Chg.of_grown g2 (fun j e => by simpa using e.symm)) (fun j a c e => by omega), own_base (own_off15 V4.out g2 (fun j hj e => by have := VL.out j hj; simp at e; omega)) (by omega), hm.1, by omega, fun j hj => by have := VL.out j hj; omega⟩
    have O3 := hid (OR.top g2.size)
    have B0 := hid (B0.out.trans (below_of_grown g2 (by omega) B0.out.size))
    clear hV1 g2 c1 f1 c2 f2 c4 OR hl1 hl0 hl2 hl3 hl4 hm hl U4 V4 VL M4 A2
    have c2 := y2.cells
    have c1 := A1.out.cells
    have f1 := A1.out.loose
    clear y2
    go_wp2
    have g3 := putV_grown V1 (w.heap.size + 1) y tm (.slice a bn c) (.slice a' gn c') jr sv I o n r b (.slice x' vn z') true
    have d := (A1.out.putV y tm (.slice a bn c) (.slice a' gn c') jr sv I o n r b (.slice x' vn z') true).cells
    unfold putV at g3 d
    have hl := LW.out
    refine bodyPost_ret (v := .tuple #[svw y tm (.slice a bn c) (.slice a' gn c') jr sv I o n r b (.slice x' vn z') true, .bool k]) (by simp [results, Try.results12, go_sem, d]) rfl ⟨_, _, _, _, _, _, rfl, ?_, ?_⟩
    · exact ((O3.out.grown g3 (Or.inl (by omega))).base (by omega)).top g3.size
    · exact B0.out.trans (below_of_grown g3 (by omega) B0.out.size)

set_option maxHeartbeats 6400000 in
set_option maxRecDepth 100000 in
theorem implFeedV (y tm : Int) (km bn kg gn : Nat) (jr : ByteArray) (sv : Int) (i o : ByteArray) (n r : Bool) (b : Int) (kv vn : Nat) (u : Bool) (t : ByteArray) (S : List X7) (G V : List Int) (w : World) (H : Sm16 bn gn vn S G V) (R : Rv w (some ⟨km, 0, none⟩) (some ⟨kg, 0, none⟩) (some ⟨kv, 0, none⟩) S G V) (hjr : jr.size ≤ 1048576) (hi1 : i.size ≤ 1048576) (ho1 : o.size ≤ 1048576) (ht1 : t.size ≤ 1048576) :
    Calls Try.prog 14 #[svw y tm (.slice (some ⟨km, 0, none⟩) bn bn) (.slice (some ⟨kg, 0, none⟩) gn gn) jr sv i o n r b (.slice (some ⟨kv, 0, none⟩) vn vn) u, .string t] w fun e w' => ∃ a c a' c' x z, e = .returned (.tuple #[svw y tm (.slice a bn c) (.slice a' gn c') jr sv (vfi i t r u) o n r b (.slice x vn z) u, .bool (vfo i t r u)]) ∧ OwR w' w.heap.size w'.heap.size (.slice a bn c) (.slice a' gn c') (.slice x vn z) S G V ∧ Below w.heap.size w w' := by
  have HF := hid (fun (W : World) (hb : Below w.heap.size w W) => by
    obtain ⟨_, _, ⟨_, _, x3⟩⟩ := R.later hb
    exact implFeed_any _ _ i o n r b (some ⟨kv, 0, none⟩) vn vn V t W hi1 ho1 ht1 H.vl H.vs x3 (by intro h; cases h))
  obtain ⟨I, hI⟩ : ∃ I, vfi i t r u = I := ⟨_, rfl⟩
  obtain ⟨k, hk⟩ : ∃ k, vfo i t r u = k := ⟨_, rfl⟩
  rw [hI, hk]
  have HI := hid hI
  have HQ := hid hk
  clear hI hk
  obtain ⟨W0, hW0⟩ : ∃ W0, (w.alloc (.cells #[.int .i64 y, .int .i64 tm, .slice (some ⟨km, 0, none⟩) bn bn, .slice (some ⟨kg, 0, none⟩) gn gn, .string jr, .int .i64 sv, .string i, .string o, .bool n, .bool r, .int .i64 b, .slice (some ⟨kv, 0, none⟩) vn vn, .bool u] 31)).alloc (.cells sv0 31) = W0 := ⟨_, rfl⟩
  have b0 : Below w.heap.size w W0 := by subst hW0; exact bpush (bpush (bre _) _) _
  have a0 : Vx W0 w.heap.size 31 y tm (.slice (some ⟨km, 0, none⟩) bn bn) (.slice (some ⟨kg, 0, none⟩) gn gn) jr sv i o n r b (.slice (some ⟨kv, 0, none⟩) vn vn) u := by subst hW0; exact (Vx.new w _ _ _ _ _ _ _ _ _ _ _ _ _ _ ).later (bpush (bre _) _)
  have a1 : Vx W0 (w.heap.size + 1) 31 0 0 (.slice none 0 0) (.slice none 0 0) ⟨#[]⟩ 0 ⟨#[]⟩ ⟨#[]⟩ false false 0 (.slice none 0 0) false := by
    have h := Vx.new (w.alloc (.cells #[.int .i64 y, .int .i64 tm, .slice (some ⟨km, 0, none⟩) bn bn, .slice (some ⟨kg, 0, none⟩) gn gn, .string jr, .int .i64 sv, .string i, .string o, .bool n, .bool r, .int .i64 b, .slice (some ⟨kv, 0, none⟩) vn vn, .bool u] 31)) 31 0 0 (.slice none 0 0) (.slice none 0 0) ⟨#[]⟩ 0 ⟨#[]⟩ ⟨#[]⟩ false false 0 (.slice none 0 0) false
    rw [hW0] at h
    simpa using h
  have HC := hid (implCopy16_any y tm km bn kg gn jr sv i o n r b kv vn u S G V W0 H (R.later b0) hjr hi1 ho1)
  have A0 := hid a0
  have A1 := hid a1
  have B0 := hid b0
  have HW := hid hW0
  have c0 := a0.cells
  clear a0 a1 b0 hW0 H R hjr hi1 ho1
  clear ht1
  go_enter Try.func14, Try.ntmps14
  go_wp2_with fail
  rw [HW.out]
  clear HW
  refine HC.out.mono ?_; rintro e w1 ⟨a, c, a', c', x, z, rfl, ho, hb⟩
  have LW : Hid (w.heap.size + 1 < W0.heap.size) := hid A1.out.lt
  have L1 : Hid (W0.heap.size ≤ w1.heap.size) := hid hb.size
  obtain ⟨w2, hw2⟩ : ∃ W, w1.alloc (.cells #[.int .i64 y, .int .i64 tm, .slice a bn c, .slice a' gn c', .string jr, .int .i64 sv, .string i, .string o, .bool n, .bool r, .int .i64 b, .slice x vn z, .bool u] 31) = W := ⟨_, rfl⟩
  have b2 : Below w1.heap.size w1 w2 := by subst hw2; exact bpush (bre _) _
  have x2 : Vx w2 w1.heap.size 31 y tm (.slice a bn c) (.slice a' gn c') jr sv i o n r b (.slice x vn z) u := by subst hw2; exact Vx.new w1 _ _ _ _ _ _ _ _ _ _ _ _ _ _ 
  have O2 := hid (ho.later b2)
  have A0 := hid ((A0.out.later hb).later b2)
  have A1 := hid ((A1.out.later hb).later b2)
  have A2 := hid x2
  have B0 := hid (btr (btr B0.out hb) b2)
  have c0 := A0.out.cells
  have c2 := x2.cells
  have f2 := x2.loose
  have c1 := A1.out.cells
  have f1 := A1.out.loose
  clear ho hb b2 x2 HC
  have L2 : Hid (w1.heap.size < w2.heap.size) := hid A2.out.lt
  go_upto_region 2 with fail
  clear hw2
  cases u with
  | false =>
    clear HF
    obtain rfl : i = I := HI.out
    obtain rfl : false = k := HQ.out
    go_wp2
    have hl := LW.out
    have hl1 := L1.out
    have hl2 := L2.out
    have g3 := putV_grown w2 (w.heap.size + 1) y tm (.slice a bn c) (.slice a' gn c') jr sv i o n r b (.slice x vn z) false
    have d := (A1.out.putV y tm (.slice a bn c) (.slice a' gn c') jr sv i o n r b (.slice x vn z) false).cells
    unfold putV at g3 d
    refine bodyPost_ret (v := .tuple #[svw y tm (.slice a bn c) (.slice a' gn c') jr sv i o n r b (.slice x vn z) false, .bool false]) (by simp [results, Try.results14, go_sem, d]) rfl ⟨_, _, _, _, _, _, rfl, ?_, ?_⟩
    · exact ((O2.out.grown g3 (Or.inl (by omega))).base (by omega)).top (by have := g3.size; omega)
    · exact B0.out.trans (below_of_grown g3 (by omega) B0.out.size)
  | true =>
    have hI : fsi i t r = I := HI.out
    have hk : fso i t r = k := HQ.out
    rw [hI, hk] at HF
    clear hI hk HI HQ
    go_wp2_with fail
    clear c0 c1 c2 f1 f2
    refine (HF.out _ B0.out).mono ?_; rintro e w3 ⟨x', z', rfl, ho, hb⟩
    obtain ⟨w4, hw4⟩ : ∃ W, w3.alloc (.cells #[.string I, .string o, .bool n, .bool r, .int .i64 b, .slice x' vn z'] 29) = W := ⟨_, rfl⟩
    have b4 : Below w3.heap.size w3 w4 := by subst hw4; exact bpush (bre _) _
    have s4 : Sn w4 w3.heap.size 29 I o n r b (.slice x' vn z') := by subst hw4; exact Sn.new w3 _ _ _ _ _ _ _
    have A1 := hid ((A1.out.later hb).later b4)
    have A2 := hid ((A2.out.later hb).later b4)
    have L3 : Hid (w2.heap.size ≤ w3.heap.size) := hid hb.size
    have L4 : Hid (w3.heap.size ≤ w4.heap.size) := hid b4.size
    obtain ⟨m, u1, u2, u3, u4, u5⟩ := O2.out
    have U4 := hid ((u1.later hb).later b4)
    have V4 : Hid (OwI w4 w2.heap.size (.slice x' vn z') V) := hid (own_later ho b4)
    have VL : Hid (∀ j, Value.ownBlock (.slice x' vn z') = some j → w2.heap.size ≤ j ∧ j < w3.heap.size) := hid (fun j hj => World.ownsRow.lt ho j hj)
    have M4 := hid (And.intro u3 u4)
    have B0 := hid (btr (btr B0.out hb) b4)
    have c1 := A1.out.cells
    have f1 := A1.out.loose
    have c2 := A2.out.cells
    have f2 := A2.out.loose
    have c4 := s4.cells
    clear ho hb b4 s4 u1 u2 u3 u4 u5 O2 HF
    have hl : w.heap.size + 1 < w1.heap.size := by have h1 := LW.out; have h2 := L1.out; omega
    go_upto_region 6 with fail
    clear hw4
    obtain ⟨V1, hV1⟩ : ∃ W, putS w4 w1.heap.size I o n r b (.slice x' vn z') = W := ⟨_, rfl⟩
    have g2 := putS_grown w4 w1.heap.size I o n r b (.slice x' vn z')
    have y2 := A2.out.putS I o n r b (.slice x' vn z')
    rw [hV1] at g2 y2
    unfold putS at hV1
    rw [hV1]
    have hl1 := L1.out
    have hl0 := LW.out
    have hl2 := L2.out
    have hl3 := L3.out
    have hl4 := L4.out
    have hm := M4.out
    have A1 := hid (A1.out.grown g2 (by simp; omega))
    have OR : OwR V1 W0.heap.size w4.heap.size (.slice a bn c) (.slice a' gn c') (.slice x' vn z') S G V :=
      ⟨m, U4.out.chg (P := fun j => j = w1.heap.size) (Chg.of_grown g2 (fun j e => by simpa using e.symm)) (fun j a c e => by omega), own_base (own_off15 V4.out g2 (fun j hj e => by have := VL.out j hj; simp at e; omega)) (by omega), hm.1, by omega, fun j hj => by have := VL.out j hj; omega⟩
    have O3 := hid (OR.top g2.size)
    have B0 := hid (B0.out.trans (below_of_grown g2 (by omega) B0.out.size))
    clear hV1 g2 c1 f1 c2 f2 c4 OR hl1 hl0 hl2 hl3 hl4 hm hl U4 V4 VL M4 A2
    have c2 := y2.cells
    have c1 := A1.out.cells
    have f1 := A1.out.loose
    clear y2
    go_wp2
    have g3 := putV_grown V1 (w.heap.size + 1) y tm (.slice a bn c) (.slice a' gn c') jr sv I o n r b (.slice x' vn z') true
    have d := (A1.out.putV y tm (.slice a bn c) (.slice a' gn c') jr sv I o n r b (.slice x' vn z') true).cells
    unfold putV at g3 d
    have hl := LW.out
    refine bodyPost_ret (v := .tuple #[svw y tm (.slice a bn c) (.slice a' gn c') jr sv I o n r b (.slice x' vn z') true, .bool k]) (by simp [results, Try.results14, go_sem, d]) rfl ⟨_, _, _, _, _, _, rfl, ?_, ?_⟩
    · exact ((O3.out.grown g3 (Or.inl (by omega))).base (by omega)).top g3.size
    · exact B0.out.trans (below_of_grown g3 (by omega) B0.out.size)

end Go.Proofs.Ytckenihadlmlaaa
