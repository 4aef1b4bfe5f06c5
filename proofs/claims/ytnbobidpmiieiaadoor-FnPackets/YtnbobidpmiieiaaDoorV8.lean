/- K8e, K9a, K9b, K9c, K9n. -/
import Derived.Test.YtnbobidpmiieiaaDoorV5
import Derived.Test.YtnbobidpmiieiaaDoorV7
namespace Go.Proofs.YtnbobidpmiieiaaDoor
open Go.RowKit Go.ChangeMaps
/-- What was read to the end. -/
def wh {α : Type} (o : Option (α × Int)) (n : Nat) : Option α := match o with
  | none => none
  | some p => if p.2 = (n : Int) then some p.1 else none
theorem wh_none {α : Type} {o : Option (α × Int)} (n : Nat) (h : o = none) : wh o n = none := by rw [h]; rfl
theorem wh_yes {α : Type} {o : Option (α × Int)} {n : Nat} {x : α} {c : Int} (h : o = some (x, c)) (hc : c = (n : Int)) : wh o n = some x := by rw [h]; exact if_pos hc
theorem wh_no {α : Type} {o : Option (α × Int)} {n : Nat} {x : α} {c : Int} (h : o = some (x, c)) (hc : ¬ c = (n : Int)) : wh o n = none := by rw [h]; exact if_neg hc
def RallPacket (s : ByteArray) (w : World) (e : Ending) (w' : World) : Prop :=
  (∃ ep sq ak tx, wh (ipk s 0) s.size = some (ep, sq, ak, tx) ∧ e = .returned (.tuple #[.agg #[.int .i64 ep, .int .i64 sq, .int .i64 ak, .string tx], .bool true]) ∧ True ∧ Below w.heap.size w w') ∨
  (wh (ipk s 0) s.size = none ∧ e = .returned (.tuple #[.agg #[.int .i64 0, .int .i64 0, .int .i64 0, .string ⟨#[]⟩], .bool false]) ∧ Below w.heap.size w w')
set_option maxHeartbeats 4000000 in
set_option maxRecDepth 100000 in
theorem readAllPacket_any (s : ByteArray) (w : World) (hs : s.size ≤ 1048576) :
    Calls Tryd.prog 30 #[.string s, .func (.func 31) #[] #[]] w fun e w' => RallPacket s w e w' := by
  have HSZ := hid hs
  have Z0 := hid (Pk.new w 25 0 0 0 ⟨#[]⟩)
  have LZ : Hid (w.heap.size < (w.alloc (.cells #[.int .i64 0, .int .i64 0, .int .i64 0, .string ⟨#[]⟩] 25)).heap.size) := Z0.out.lt
  have B0 := hid (bpush (bre w) (.cells #[.int .i64 0, .int .i64 0, .int .i64 0, .string ⟨#[]⟩] 25))
  clear hs
  go_enter Tryd.func30, Tryd.ntmps30
  go_wp2_with fail
  refine (readAtPacket_any s 0 _ HSZ.out).mono ?_; rintro e w2 (⟨ep, sq, ak, tx, c, hr, rfl, ho, hb2⟩ | ⟨hr, rfl, hb2⟩)
  · have H := hid hr
    have hb3 := bpush hb2 (.cells #[.int .i64 ep, .int .i64 sq, .int .i64 ak, .string tx] 25)
    have N3 := hid (Pk.new w2 25 ep sq ak tx)
    have Z3 := hid (Z0.out.later hb3)
    have B3 := hid (btr B0.out hb3)
    have O3 := hid (trivial : True)
    have LW := LZ.out
    have d5 := Z3.out.cells
    have f5 := Z3.out.loose
    have dn := N3.out.cells
    clear hr ho hb2 hb3 Z0 B0 LW
    by_cases hc : c = (s.size : Int)
    · have HC := hid (wh_yes (H.out) hc)
      go_wp2
      have hX := Pk.put Z3.out ep sq ak tx
      unfold putP at hX
      have d := hX.cells
      have hg7 := (wst (wst (wst (wst (wre (w2.alloc (.cells #[.int .i64 ep, .int .i64 sq, .int .i64 ak, .string tx] 25)) (some w.heap.size)) 0 (.int .i64 ep)) 1 (.int .i64 sq)) 2 (.int .i64 ak)) 3 (.string tx))
      have l1 := LZ.out
      refine bodyPost_ret (v := .tuple #[.agg #[.int .i64 ep, .int .i64 sq, .int .i64 ak, .string tx], .bool true]) (by simp [results, Tryd.results30, go_sem, d]) rfl (Or.inl ⟨ep, sq, ak, tx, HC.out, rfl, ?_, ?_⟩)
      · exact trivial
      · exact B3.out.trans (below_grownR hg7 (by intro j hj; simp at hj; omega) B3.out.size)
    · have HC := hid (wh_no (H.out) hc)
      have d6 := (Z3.out.later (bpush (bre (w2.alloc (.cells #[.int .i64 ep, .int .i64 sq, .int .i64 ak, .string tx] 25))) (.cells #[.int .i64 0, .int .i64 0, .int .i64 0, .string ⟨#[]⟩] 25))).cells
      have f6 := (Z3.out.later (bpush (bre (w2.alloc (.cells #[.int .i64 ep, .int .i64 sq, .int .i64 ak, .string tx] 25))) (.cells #[.int .i64 0, .int .i64 0, .int .i64 0, .string ⟨#[]⟩] 25))).loose
      clear d5 f5
      go_wp2
      have hX := Pk.put (Z3.out.later (bpush (bre (w2.alloc (.cells #[.int .i64 ep, .int .i64 sq, .int .i64 ak, .string tx] 25))) (.cells #[.int .i64 0, .int .i64 0, .int .i64 0, .string ⟨#[]⟩] 25))) 0 0 0 ⟨#[]⟩
      unfold putP at hX
      have d := hX.cells
      have hg7 := (wst (wst (wst (wst (wre ((w2.alloc (.cells #[.int .i64 ep, .int .i64 sq, .int .i64 ak, .string tx] 25)).alloc (.cells #[.int .i64 0, .int .i64 0, .int .i64 0, .string ⟨#[]⟩] 25)) (some w.heap.size)) 0 (.int .i64 0)) 1 (.int .i64 0)) 2 (.int .i64 0)) 3 (.string ⟨#[]⟩))
      have B4 := btr B3.out (bpush (bre (w2.alloc (.cells #[.int .i64 ep, .int .i64 sq, .int .i64 ak, .string tx] 25))) (.cells #[.int .i64 0, .int .i64 0, .int .i64 0, .string ⟨#[]⟩] 25))
      refine bodyPost_ret (v := .tuple #[.agg #[.int .i64 0, .int .i64 0, .int .i64 0, .string ⟨#[]⟩], .bool false]) (by simp [results, Tryd.results30, go_sem, d]) rfl (Or.inr ⟨HC.out, rfl, ?_⟩)
      exact B4.trans (below_grownR hg7 (by intro j hj; simp at hj; omega) B4.size)
  · have HC := hid (wh_none s.size hr)
    have hb3 := bpush hb2 (.cells #[.int .i64 0, .int .i64 0, .int .i64 0, .string ⟨#[]⟩] 25)
    have Z3 := hid (Z0.out.later hb3)
    have B3 := hid (btr B0.out hb3)
    have d6 := (Z3.out.later (bpush (bre (w2.alloc (.cells #[.int .i64 0, .int .i64 0, .int .i64 0, .string ⟨#[]⟩] 25))) (.cells #[.int .i64 0, .int .i64 0, .int .i64 0, .string ⟨#[]⟩] 25))).cells
    have f6 := (Z3.out.later (bpush (bre (w2.alloc (.cells #[.int .i64 0, .int .i64 0, .int .i64 0, .string ⟨#[]⟩] 25))) (.cells #[.int .i64 0, .int .i64 0, .int .i64 0, .string ⟨#[]⟩] 25))).loose
    clear hr hb2 hb3 Z0 B0
    go_wp2
    have hX := Pk.put (Z3.out.later (bpush (bre (w2.alloc (.cells #[.int .i64 0, .int .i64 0, .int .i64 0, .string ⟨#[]⟩] 25))) (.cells #[.int .i64 0, .int .i64 0, .int .i64 0, .string ⟨#[]⟩] 25))) 0 0 0 ⟨#[]⟩
    unfold putP at hX
    have d := hX.cells
    have hg7 := (wst (wst (wst (wst (wre ((w2.alloc (.cells #[.int .i64 0, .int .i64 0, .int .i64 0, .string ⟨#[]⟩] 25)).alloc (.cells #[.int .i64 0, .int .i64 0, .int .i64 0, .string ⟨#[]⟩] 25)) (some w.heap.size)) 0 (.int .i64 0)) 1 (.int .i64 0)) 2 (.int .i64 0)) 3 (.string ⟨#[]⟩))
    have B4 := btr B3.out (bpush (bre (w2.alloc (.cells #[.int .i64 0, .int .i64 0, .int .i64 0, .string ⟨#[]⟩] 25))) (.cells #[.int .i64 0, .int .i64 0, .int .i64 0, .string ⟨#[]⟩] 25))
    refine bodyPost_ret (v := .tuple #[.agg #[.int .i64 0, .int .i64 0, .int .i64 0, .string ⟨#[]⟩], .bool false]) (by simp [results, Tryd.results30, go_sem, d]) rfl (Or.inr ⟨HC.out, rfl, ?_⟩)
    exact B4.trans (below_grownR hg7 (by intro j hj; simp at hj; omega) B4.size)
theorem implUnsealedK_any (s : ByteArray) (w : World) (hm : s.size ≤ 1048576) (hn : Nib w) :
    Calls Tryd.prog 29 #[.string s] w fun e w' => e = .returned (.tuple #[.string (unsK s).1, .bool (unsK s).2]) ∧ Below w.heap.size w w' := by
  by_cases h : 4 ≤ s.size ∧ s.size ≤ 20004
  · by_cases h2 : tail4 (s.extract 0 (s.size - 4)) = s.extract (s.size - 4) s.size
    · have e : unsK s = (s.extract 0 (s.size - 4), true) := by unfold unsK; rw [if_pos ⟨h.1, h.2, h2⟩]
      rw [e]
      exact implUnsealed_yes s (s.size - 4) w (by omega) (by omega) hn h2
    · have e : unsK s = (⟨#[]⟩, false) := by unfold unsK; rw [if_neg (fun x => h2 x.2.2)]
      rw [e]
      exact implUnsealed_no s (s.size - 4) w (by omega) (by omega) hn h2
  · have e : unsK s = (⟨#[]⟩, false) := by unfold unsK; rw [if_neg (fun x => h ⟨x.1, x.2.1⟩)]
    rw [e]
    exact (implUnsealed_size s w hm (by omega)).mono fun _ _ h => ⟨h.1, h.2 ▸ bre _⟩
theorem unsK_whole {s u : ByteArray} (h : unsK s = (u, true)) : u ++ tail4 u = s ∧ u.size ≤ 20000 := by
  have hz := unsK_size s
  rw [h] at hz
  unfold unsK at h
  split at h
  · rename_i hc
    simp only [Prod.mk.injEq, and_true] at h
    subst h
    refine ⟨?_, hz⟩
    rw [hc.2.2]
    apply ByteArray.ext
    rw [ByteArray.data_append]
    simp only [ByteArray.data_extract]
    rw [Array.extract_append_extract]
    simp only [Nat.min_eq_left (Nat.zero_le _), Nat.max_eq_right (Nat.sub_le _ _)]
    exact Array.extract_size
  · simp at h
/-- The whole text is read, or it is not the text of what was read. -/

theorem ipk_stood {u : ByteArray} {e x y c : Int} {t : ByteArray} (h : ipk u 0 = some ((e, x, y, t), c)) (hc : c = (u.size : Int)) : pkOk e x y t = true ∧ u = pkt e x y t := by
  cases h1 : rd u 0 with
  | none => rw [ipk_n1 h1] at h; cases h
  | some p1 =>
    obtain ⟨e1, c1⟩ := p1
    cases h2 : rd u c1 with
    | none => rw [ipk_n2 h1 h2] at h; cases h
    | some p2 =>
      obtain ⟨x1, c2⟩ := p2
      cases h3 : rd u c2 with
      | none => rw [ipk_n3 h1 h2 h3] at h; cases h
      | some p3 =>
        obtain ⟨y1, c3⟩ := p3
        cases h4 : rsh u c3 with
        | none => rw [ipk_n4 h1 h2 h3 h4] at h; cases h
        | some p4 =>
          obtain ⟨t1, c4⟩ := p4
          rw [ipk_y h1 h2 h3 h4] at h
          split at h
          · rename_i hok
            simp only [Option.some.injEq, Prod.mk.injEq] at h
            obtain ⟨⟨rfl, rfl, rfl, rfl⟩, rfl⟩ := h
            refine ⟨hok, bl_inj ?_⟩
            have s1 := rd_stood h1
            have s2 := rd_stood h2
            have s3 := rd_stood h3
            have s4 := (rsh_stood h4).1
            have hz : (bl u).drop c4.toNat = [] := by
              rw [hc, Int.toNat_natCast]
              exact List.drop_of_length_le (by rw [bl_len]; omega)
            rw [s2, s3, s4, hz] at s1
            simp only [Int.toNat_zero, List.drop_zero, List.append_nil] at s1
            rw [s1]
            unfold pkt
            simp only [bl_app, bl_vi, List.append_assoc, Int.toNat_natCast]
          · cases h
theorem pkt_whole {e x y : Int} {t : ByteArray} (h : pkOk e x y t = true) : wh (ipk (pkt e x y t) 0) (pkt e x y t).size = some (e, x, y, t) := by
  have a0 := pkt_at e x y t
  have hk := h
  simp only [pkOk, Bool.and_eq_true, decide_eq_true_eq] at h
  obtain ⟨r1, r2, r3, r4⟩ := h
  have v1 := AtK.var a0.here r1
  have a1 := a0.next
  rw [bl_len] at a1
  have v2 := AtK.var a1.here r2
  have a2 := a1.next
  rw [bl_len] at a2
  have v3 := AtK.var a2.here r3
  have a3 := a2.next
  rw [bl_len] at a3
  have v4 := AtK.short a3 (by omega)
  have hi := ipk_y v1 v2 v3 v4
  rw [if_pos hk] at hi
  refine wh_yes hi ?_
  unfold pkt
  simp only [ByteArray.size_append]
  omega
theorem rp_impl (t : ByteArray) (x : Ending) (h : (∃ e s a u, wh (ipk (unsK t).1 0) (unsK t).1.size = some (e, s, a, u) ∧ x = .returned (.tuple #[pkv e s a u, .bool true])) ∨ (wh (ipk (unsK t).1 0) (unsK t).1.size = none ∧ x = .returned (.tuple #[pkv 0 0 0 ⟨#[]⟩, .bool false]))) : RpPost t x := by
  rcases h with ⟨e, s, a, u, h, rfl⟩ | ⟨h, rfl⟩
  · left
    cases hi : ipk (unsK t).1 0 with
    | none => rw [wh_none _ hi] at h; cases h
    | some p =>
      obtain ⟨⟨e1, s1, a1, u1⟩, c⟩ := p
      by_cases hc : c = ((unsK t).1.size : Int)
      · rw [wh_yes hi hc] at h
        simp only [Option.some.injEq, Prod.mk.injEq] at h
        obtain ⟨rfl, rfl, rfl, rfl⟩ := h
        obtain ⟨hok, hu⟩ := ipk_stood hi hc
        refine ⟨_, _, _, _, hok, ?_, rfl⟩
        cases hb : (unsK t).2 with
        | true =>
          have := (unsK_whole (s := t) (u := (unsK t).1) (by rw [← hb])).1
          rw [hu] at this
          exact this
        | false =>
          have he : (unsK t).1 = ⟨#[]⟩ := by
            unfold unsK at hb ⊢
            split at hb
            · cases hb
            · rename_i hn
              rw [if_neg hn]
          rw [he] at hi
          rw [ipk_n1 rfl] at hi
          cases hi
      · rw [wh_no hi hc] at h; cases h
  · right
    refine ⟨fun e s a u hok hS => ?_, rfl⟩
    have hz := pkt_size hok
    have hu : unsK t = (pkt e s a u, true) := by rw [← hS]; exact unsK_sealed _ (by omega)
    rw [hu] at h
    rw [pkt_whole hok] at h
    cases h
set_option maxHeartbeats 1600000 in
set_option maxRecDepth 100000 in
theorem implReadPacket_any (t : ByteArray) (w : World) (ht : t.size ≤ 1048576) (hn : Nib w) :
    Calls Tryd.prog 8 #[.string t] w fun x w' => RpPost t x ∧ Below w.heap.size w w' := by
  obtain ⟨W0, hW0⟩ : ∃ W0, w.alloc (.cells #[.int .i64 0, .int .i64 0, .int .i64 0, .string ⟨#[]⟩] 25) = W0 := ⟨_, rfl⟩
  have b0 : Below w.heap.size w W0 := by subst hW0; exact bpush (bre _) _
  have x0 : Pk W0 w.heap.size 25 0 0 0 ⟨#[]⟩ := by subst hW0; exact Pk.new _ _ _ _ _ _
  have X0 := hid x0
  have B0 := hid b0
  have HW0 := hid hW0
  have CU := hid (implUnsealedK_any t W0 ht (hn.on17 b0))
  have HU := hid (unsK_size t)
  have HRP := hid (rp_impl t)
  obtain ⟨u, hu⟩ : ∃ u, (unsK t).1 = u := ⟨_, rfl⟩
  obtain ⟨k, hk⟩ : ∃ u, (unsK t).2 = u := ⟨_, rfl⟩
  rw [hu, hk] at CU
  rw [hu] at HU HRP
  clear x0 b0 hW0 hn hu hk ht
  go_enter Tryd.func8, Tryd.ntmps8
  go_wp2_with fail
  rw [HW0.out]
  refine CU.out.mono ?_; rintro z w1 ⟨rfl, hb1⟩
  have X1 := hid (X0.out.later hb1)
  have B1 := hid (btr B0.out hb1)
  clear hb1 X0 B0 CU
  go_wp2_with fail
  refine (readAllPacket_any u w1 (by have := HU.out; omega)).mono ?_; rintro z w2 (⟨e, s, a, v, hr, rfl, -, hb2⟩ | ⟨hr, rfl, hb2⟩)
  · have P := hid (HRP.out (.returned (.tuple #[pkv e s a v, .bool true])) (Or.inl ⟨e, s, a, v, hr, rfl⟩))
    have X2 := hid (X1.out.later hb2)
    have B2 := hid (btr B1.out hb2)
    have d5 := X2.out.cells
    have f5 := X2.out.loose
    clear hr hb2 X1 B1
    go_wp2
    have g3 := putP_grown w2 w.heap.size e s a v
    have d := (X2.out.put e s a v).cells
    have b3 := B2.out.trans (below_of_grown g3 (by omega) B2.out.size)
    unfold putP at g3 d b3
    exact bodyPost_ret (v := .tuple #[pkv e s a v, .bool true]) (by simp [results, Tryd.results8, go_sem, d]) rfl ⟨P.out, b3⟩
  · have P := hid (HRP.out (.returned (.tuple #[pkv 0 0 0 ⟨#[]⟩, .bool false])) (Or.inr ⟨hr, rfl⟩))
    have X2 := hid (X1.out.later hb2)
    have B2 := hid (btr B1.out hb2)
    have d5 := X2.out.cells
    have f5 := X2.out.loose
    clear hr hb2 X1 B1
    go_wp2
    have g3 := putP_grown w2 w.heap.size 0 0 0 ⟨#[]⟩
    have d := (X2.out.put 0 0 0 ⟨#[]⟩).cells
    have b3 := B2.out.trans (below_of_grown g3 (by omega) B2.out.size)
    unfold putP at g3 d b3
    exact bodyPost_ret (v := .tuple #[pkv 0 0 0 ⟨#[]⟩, .bool false]) (by simp [results, Tryd.results8, go_sem, d]) rfl ⟨P.out, b3⟩
/-- The slice reads as these texts, in a block from B on. -/
def SlV (W : World) (B : Nat) (a : Option Addr) (n c : Nat) (G : List ByteArray) : Prop :=
  G.length = n ∧ (a = none → c = 0) ∧ n ≤ c ∧ (∀ i (h : i < G.length), ∃ k o, a = some ⟨k, o, none⟩ ∧ W.cell? ⟨k, o + i, none⟩ = some (.string G[i])) ∧ ∀ q, Value.ownBlock (.slice a n c) = some q → B ≤ q ∧ q < W.heap.size
section
variable {W W' : World} {B n c : Nat} {a : Option Addr} {G : List ByteArray}
theorem SlV.later (h : SlV W B a n c G) (hb : Below W.heap.size W W') : SlV W' B a n c G := by
  refine ⟨h.1, h.2.1, h.2.2.1, fun i hi => ?_, fun q hq => ⟨(h.2.2.2.2 q hq).1, Nat.lt_of_lt_of_le (h.2.2.2.2 q hq).2 hb.size⟩⟩
  obtain ⟨k, o, e, hc⟩ := h.2.2.2.1 i hi
  exact ⟨k, o, e, (cell_sameT (p := ⟨k, o + i, none⟩) (hb.block k (h.2.2.2.2 k (by rw [e]; rfl)).2)).trans hc⟩
theorem SlV.off {r : Option Nat} (h : SlV W B a n c G) (hg : W.grownBy W' r) (hk : ∀ j, Value.ownBlock (.slice a n c) = some j → r ≠ some j) : SlV W' B a n c G := by
  refine ⟨h.1, h.2.1, h.2.2.1, fun i hi => ?_, fun q hq => ⟨(h.2.2.2.2 q hq).1, Nat.lt_of_lt_of_le (h.2.2.2.2 q hq).2 hg.size⟩⟩
  obtain ⟨k, o, e, hc⟩ := h.2.2.2.1 i hi
  exact ⟨k, o, e, (cell_sameT (p := ⟨k, o + i, none⟩) (hg.block k (h.2.2.2.2 k (by rw [e]; rfl)).2 (fun q => hk k (by rw [e]; rfl) q.symm))).trans hc⟩
theorem SlV.base (h : SlV W B a n c G) {B' : Nat} (hB : B' ≤ B) : SlV W B' a n c G := ⟨h.1, h.2.1, h.2.2.1, h.2.2.2.1, fun q hq => ⟨Nat.le_trans hB (h.2.2.2.2 q hq).1, (h.2.2.2.2 q hq).2⟩⟩
theorem SlV.ss (h : SlV W B a n c G) : Ss B W.heap.size W a G := by
  refine ⟨Nat.le_refl _, fun i hi => ?_⟩
  obtain ⟨k, o, e, hc⟩ := h.2.2.2.1 i hi
  have := h.2.2.2.2 k (by rw [e]; rfl)
  exact ⟨k, o, e, this.1, this.2, hc⟩
theorem SlV.of (h : OwV W B (.slice a n c) G) : SlV W B a n c G := by
  obtain ⟨hn, hs⟩ := OwV.is h
  refine ⟨hn.symm, fun e => ?_, ?_, fun i hi => ?_, fun q hq => World.ownsRow.lt h q hq⟩
  · obtain ⟨a', c', h1, h2⟩ := OwV.shape h
    simp only [Value.slice.injEq] at h1
    obtain ⟨rfl, _, rfl⟩ := h1
    exact h2 e
  · rcases Nat.eq_zero_or_pos G.length with h0 | h0
    · omega
    · obtain ⟨_, _, h4, _⟩ := own_at17 h h0
      exact h4
  · obtain ⟨k, o, e, _, hc⟩ := hs.at hi
    exact ⟨k, o, e, hc⟩
/-- Behind the first. -/
theorem SlV.tail {ad : Addr} {n c : Nat} (h : SlV W B (some ad) n c G) (hn : 0 < n) : SlV W B (if c = 1 then some ad else some (ad.add 1)) (n - 1) (c - 1) G.tail := by
  obtain ⟨h1, h2, h3, h4, h5⟩ := h
  obtain ⟨k0, o0, e0, _⟩ := h4 0 (by omega)
  simp only [Option.some.injEq] at e0
  subst e0
  have hown := h5 k0 rfl
  refine ⟨by rw [List.length_tail, h1], fun e => (by split at e <;> cases e), by omega, fun i hi => ?_, fun q hq => ?_⟩
  · rw [List.length_tail] at hi
    obtain ⟨k, o, e, hc⟩ := h4 (i + 1) (by omega)
    simp only [Option.some.injEq, Addr.mk.injEq, and_true] at e
    obtain ⟨rfl, rfl⟩ := e
    rw [if_neg (by omega), addr_add]
    refine ⟨_, _, rfl, ?_⟩
    rw [show o0 + 1 + i = o0 + (i + 1) by omega, hc, List.getElem_tail]
  · have : q = k0 := by split at hq <;> simpa [Value.ownBlock, Addr.add] using hq.symm
    subst this
    exact hown
end
/-- Whether the first has come, as the program asks. -/
def ackI (nx : Int) (gn : Nat) (a : Int) : Bool := decide (0 < gn) && (decide (nx < a) && decide (a - 1 = nx))
theorem hAck_ackI {ep nx : Int} {G : List ByteArray} {e a : Int} (h : 1 ≤ nx) : hAck ep nx G e a = (decide (e = ep) && ackI nx G.length a) := by
  unfold hAck ackI
  congr 2
  rw [Bool.eq_iff_iff]
  simp only [Bool.and_eq_true, decide_eq_true_eq]
  omega
set_option maxHeartbeats 800000 in
set_option maxRecDepth 100000 in
theorem acksFirst_any (ep nx wt : Int) (ga : Option Addr) (gn gc : Nat) (a : Int) (w : World) (ha : 0 - 9223372036854775808 ≤ a ∧ a ≤ 9223372036854775807) (hn : 0 - 9223372036854775808 ≤ nx) :
    Calls Tryd.prog 65 #[lkv ep (.slice ga gn gc) nx wt, .int .i64 a] w fun e w' => e = .returned (.bool (ackI nx gn a)) ∧ Below w.heap.size w w' := by
  obtain ⟨W0, hW0⟩ : ∃ W0, w.alloc (.cells #[.int .i64 ep, .slice ga gn gc, .int .i64 nx, .int .i64 wt] 34) = W0 := ⟨_, rfl⟩
  have b0 : Below w.heap.size w W0 := by subst hW0; exact bpush (bre _) _
  have x0 : Lk W0 w.heap.size 34 ep (.slice ga gn gc) nx wt := by subst hW0; exact Lk.new _ _ _ _ _ _
  have B0 := hid b0
  have c0 := x0.cells
  have HW := hid hW0
  clear x0 b0 hW0
  obtain ⟨k, hk⟩ : ∃ k, ackI nx gn a = k := ⟨_, rfl⟩
  rw [hk]
  have HK := hid hk
  clear hk
  by_cases h0 : 0 < gn
  rotate_left
  · obtain rfl : gn = 0 := by omega
    go_enter Tryd.func65, Tryd.ntmps65
    go_upto_region 1 with fail
    rw [HW.out]
    go_wp2
    go_ret
    exact ⟨by rw [← HK.out]; rfl, B0.out⟩
  have h0i : (0 : Int) < (gn : Int) := by omega
  by_cases h1 : nx < a
  rotate_left
  · have hf : k = false := by rw [← HK.out]; unfold ackI; simp [h1]
    subst hf
    go_enter Tryd.func65, Tryd.ntmps65
    go_upto_region 1 with fail
    rw [HW.out]
    go_wp2
    go_ret
    exact ⟨rfl, B0.out⟩
  by_cases h2 : a - 1 = nx
  · have hf : k = true := by rw [← HK.out]; unfold ackI; simp [h0, h1, h2]
    subst hf
    have h3 : (a - 1 == nx) = true := by simp [h2]
    go_enter Tryd.func65, Tryd.ntmps65
    go_upto_region 1 with fail
    rw [HW.out]
    go_wp2
    go_ret
    exact ⟨rfl, B0.out⟩
  · have hf : k = false := by rw [← HK.out]; unfold ackI; simp [h2]
    subst hf
    have h3 : (a - 1 == nx) = false := by simp [h2]
    go_enter Tryd.func65, Tryd.ntmps65
    go_upto_region 1 with fail
    rw [HW.out]
    go_wp2
    go_ret
    exact ⟨rfl, B0.out⟩
set_option maxHeartbeats 3200000 in
set_option maxRecDepth 100000 in
theorem hears17_any (B b : Nat) (ep nx wt : Int) (ga : Option Addr) (gn gc : Nat) (G : List ByteArray) (e s a : Int) (t : ByteArray) (w : World) (hx : Lk w b 34 ep (.slice ga gn gc) nx wt) (hsl : SlV w B ga gn gc G) (hkb : ∀ q, Value.ownBlock (.slice ga gn gc) = some q → q ≠ b) (ht : t.size ≤ 1048576) (ha : 0 - 9223372036854775808 ≤ a ∧ a ≤ 9223372036854775807) (hnx : 1 ≤ nx) :
    Calls Tryd.prog 64 #[pkv e s a t, lkP b] w fun ex w' => ex = .returned (.tuple #[.string (hText ep wt e s t), .bool (hGot ep wt e s)]) ∧ w.grownBy w' (some b) ∧ ∃ a' c', Lk w' b 34 ep (.slice a' (hWay ep nx G e a).length c') (hNext ep nx G e a) (hWant ep wt e s) ∧ SlV w' B a' (hWay ep nx G e a).length c' (hWay ep nx G e a) ∧ (∀ q, Value.ownBlock (.slice a' (hWay ep nx G e a).length c') = some q → q ≠ b) := by
  obtain ⟨W0, hW0⟩ : ∃ W0, w.alloc (.cells #[.int .i64 e, .int .i64 s, .int .i64 a, .string t] 25) = W0 := ⟨_, rfl⟩
  have b0 : Below w.heap.size w W0 := by subst hW0; exact bpush (bre _) _
  have x0 : Pk W0 w.heap.size 25 e s a t := by subst hW0; exact Pk.new _ _ _ _ _ _
  have HKW : Hid (b < w.heap.size) := hid hx.lt
  have X0 := hid x0
  have L0 := hid (hx.later b0)
  have S0 := hid (hsl.later b0)
  have G0 := hid (gof (some b) b0)
  have HKB := hid hkb
  have HT := hid ht
  have HA := hid ha
  have HNX := hid hnx
  have HGN := hid hsl.1
  have HW := hid hW0
  obtain ⟨T, hT⟩ : ∃ T, hText ep wt e s t = T := ⟨_, rfl⟩
  obtain ⟨Y, hY⟩ : ∃ Y, hGot ep wt e s = Y := ⟨_, rfl⟩
  obtain ⟨L, hL⟩ : ∃ L, hWay ep nx G e a = L := ⟨_, rfl⟩
  obtain ⟨N, hN⟩ : ∃ N, hNext ep nx G e a = N := ⟨_, rfl⟩
  obtain ⟨M, hM⟩ : ∃ M, hWant ep wt e s = M := ⟨_, rfl⟩
  obtain ⟨n, hn⟩ : ∃ n, L.length = n := ⟨_, rfl⟩
  rw [hT, hY, hL, hN, hM, hn]
  have HTT := hid hT
  have HY := hid hY
  have HL := hid hL
  have HN := hid hN
  have HM := hid hM
  have HNL := hid hn
  have c0 := x0.cells
  have c1 := L0.out.cells
  clear hx hsl hkb x0 b0 hT hY hL hN hM ht ha hnx hW0 hn
  by_cases he : e = ep
  rotate_left
  · have hne : (e != ep) = true := by simp [he]
    have q1 : hGot ep wt e s = false := by unfold hGot; simp [he]
    have q2 : hAck ep nx G e a = false := by unfold hAck; simp [he]
    obtain rfl : false = Y := by rw [← HY.out, q1]
    obtain rfl : ⟨#[]⟩ = T := by rw [← HTT.out]; unfold hText; rw [q1]; rfl
    obtain rfl : G = L := by rw [← HL.out]; unfold hWay; rw [q2]; rfl
    obtain rfl : nx = N := by rw [← HN.out]; unfold hNext; rw [q2]; rfl
    obtain rfl : wt = M := by rw [← HM.out]; unfold hWant; rw [q1]; rfl
    obtain rfl : gn = n := HGN.out.symm.trans HNL.out
    clear q1 q2
    go_enter Tryd.func64, Tryd.ntmps64
    go_upto_region 1 with fail
    rw [HW.out]
    go_wp2
    go_ret2
    exact ⟨rfl, G0.out, _, _, L0.out, S0.out, HKB.out⟩
  subst he
  have hee : (e != e) = false := by simp
  have CA := hid (fun (W : World) => acksFirst_any e nx wt ga gn gc a W HA.out (by have := HNX.out; omega))
  have HAK : Hid (hAck e nx G e a = ackI nx gn a) := hid (by rw [hAck_ackI HNX.out, HGN.out]; simp)
  go_enter Tryd.func64, Tryd.ntmps64
  go_upto_region 1 with fail
  rw [HW.out]
  go_wp2_with fail
  refine (CA.out _).mono ?_; rintro y w1 ⟨rfl, hb1⟩
  obtain ⟨k, hk⟩ : ∃ k, ackI nx gn a = k := ⟨_, rfl⟩
  have HK : Hid (hAck e nx G e a = k) := hid (HAK.out.trans hk)
  have HKI := hid hk
  rw [hk]
  clear hk
  have X1 := hid (X0.out.later hb1)
  have L1 := hid (L0.out.later hb1)
  have S1 := hid (S0.out.later hb1)
  have G1 := hid (wtr G0.out (gof (some b) hb1))
  clear hb1 X0 L0 S0 G0 c0 c1 HAK CA hee
  cases k with
  | false =>
    obtain rfl : G = L := by rw [← HL.out]; unfold hWay; rw [HK.out]; rfl
    obtain rfl : nx = N := by rw [← HN.out]; unfold hNext; rw [HK.out]; rfl
    obtain rfl : gn = n := HGN.out.symm.trans HNL.out
    have X3 := X1
    have L3 := L1
    have S3 := S1
    have G3 := G1
    have K3 := HKB
    clear X1 L1 S1 G1
    have c0 := X3.out.cells
    have c1 := L3.out.cells
    have f1 := L3.out.loose
    by_cases hs0 : s = 0
    · have h0 : (s == 0) = true := by simp [hs0]
      have q1 : hGot e wt e s = false := by unfold hGot; simp [hs0]
      obtain rfl : false = Y := by rw [← HY.out, q1]
      obtain rfl : ⟨#[]⟩ = T := by rw [← HTT.out]; unfold hText; rw [q1]; rfl
      obtain rfl : wt = M := by rw [← HM.out]; unfold hWant; rw [q1]; rfl
      clear q1 hs0
      go_wp2
      go_ret2
      exact ⟨rfl, G3.out, _, _, L3.out, S3.out, K3.out⟩
    have h0 : (s == 0) = false := by simp [hs0]
    by_cases hs1 : s = wt
    rotate_left
    · have h1 : (s != wt) = true := by simp [hs1]
      have q1 : hGot e wt e s = false := by unfold hGot; simp [hs1]
      obtain rfl : false = Y := by rw [← HY.out, q1]
      obtain rfl : ⟨#[]⟩ = T := by rw [← HTT.out]; unfold hText; rw [q1]; rfl
      obtain rfl : wt = M := by rw [← HM.out]; unfold hWant; rw [q1]; rfl
      clear q1 hs0 hs1
      go_wp2
      go_ret2
      exact ⟨rfl, G3.out, _, _, L3.out, S3.out, K3.out⟩
    have h1 : (s != wt) = false := by simp [hs1]
    have q1 : hGot e wt e s = true := by unfold hGot; simp [hs1]; omega
    obtain rfl : true = Y := by rw [← HY.out, q1]
    obtain rfl : t = T := by rw [← HTT.out]; unfold hText; rw [q1]; rfl
    obtain rfl : wrap64 (wt + 1) = M := by rw [← HM.out]; unfold hWant; rw [q1]; rfl
    clear q1 hs0 hs1
    go_upto_region 9 with fail
    clear h0 h1 c1 f1 c0
    have g4 := wst (wre w1 (some b)) 3 (.int .i64 (wrap64 (wt + 1)))
    have x4 := L3.out.s3 (wrap64 (wt + 1))
    obtain ⟨W4, hW4⟩ : ∃ W, w1.setCell ⟨b, 3, none⟩ (.int .i64 (wrap64 (wt + 1))) = W := ⟨_, rfl⟩
    rw [hW4] at g4 x4
    rw [hW4]
    have L4 := hid x4
    have S4 := hid (S3.out.off g4 (fun q hq e => K3.out q hq (by simpa using e.symm)))
    have G4 := hid (wtr G3.out g4)
    have X4 := hid (X3.out.grown g4 (by have := HKW.out; simp; omega))
    clear hW4 g4 x4
    have c0 := X4.out.cells
    go_wp2_with fail
    refine (clone_any t _ HT.out).mono ?_; rintro y w5 ⟨rfl, hb5⟩
    have L5 := hid (L4.out.later hb5)
    have S5 := hid (S4.out.later hb5)
    have G5 := hid (wtr G4.out (gof (some b) hb5))
    clear hb5 c0
    go_wp2
    go_ret2
    exact ⟨rfl, G5.out, _, _, L5.out, S5.out, K3.out⟩
  | true =>
    obtain rfl : G.tail = L := by rw [← HL.out]; unfold hWay; rw [HK.out]; rfl
    obtain rfl : wrap64 (nx + 1) = N := by rw [← HN.out]; unfold hNext; rw [HK.out]; rfl
    have hgn0 : 0 < gn := by have h := HKI.out; unfold ackI at h; simp only [Bool.and_eq_true, decide_eq_true_eq] at h; exact h.1
    obtain rfl : gn - 1 = n := by have h := HNL.out; rw [List.length_tail, HGN.out] at h; exact h
    cases ga with
    | none => exact absurd (S1.out.2.1 rfl) (by have := S1.out.2.2.1; omega)
    | some ad =>
    obtain ⟨k0, o0, e0, _⟩ := S1.out.2.2.2.1 0 (by rw [HGN.out]; exact hgn0)
    simp only [Option.some.injEq] at e0
    subst e0
    have hle : (0 : Int) ≤ 1 ∧ (1 : Int) ≤ (gn : Int) := by omega
    have c1 := L1.out.cells
    have f1 := L1.out.loose
    have T1 := hid (S1.out.tail hgn0)
    obtain ⟨a2, ha2⟩ : ∃ x : Option Addr, (if gc = 1 then some ⟨k0, o0, none⟩ else some ⟨k0, o0 + 1, none⟩) = x := ⟨_, rfl⟩
    have K3 : Hid (∀ q, Value.ownBlock (.slice a2 (gn - 1) (gc - 1)) = some q → q ≠ b) := hid (by
      intro q hq
      refine HKB.out q ?_
      rw [← ha2] at hq
      split at hq
      · exact hq
      · simpa [Value.ownBlock] using hq)
    rw [addr_add, ha2] at T1
    have HA2 := hid ha2
    clear ha2 HKB
    go_upto_region 6 with fail
    rw [HA2.out]
    have g3 := wst (wst (wre w1 (some b)) 1 (.slice a2 (gn - 1) (gc - 1))) 2 (.int .i64 (wrap64 (nx + 1)))
    have x3 := (L1.out.s1 (.slice a2 (gn - 1) (gc - 1))).s2 (wrap64 (nx + 1))
    obtain ⟨w3, hw3⟩ : ∃ W, (w1.setCell ⟨b, 1, none⟩ (.slice a2 (gn - 1) (gc - 1))).setCell ⟨b, 2, none⟩ (.int .i64 (wrap64 (nx + 1))) = W := ⟨_, rfl⟩
    rw [hw3] at g3 x3
    rw [hw3]
    have L3 := hid x3
    have S3 := hid (T1.out.off g3 (fun q hq e => K3.out q hq (by simpa using e.symm)))
    have G3 := hid (wtr G1.out g3)
    have X3 := hid (X1.out.grown g3 (by have := HKW.out; simp; omega))
    clear hw3 g3 x3 X1 L1 S1 G1 T1 c1 f1 hle HA2
    have c0 := X3.out.cells
    have c1 := L3.out.cells
    have f1 := L3.out.loose
    by_cases hs0 : s = 0
    · have h0 : (s == 0) = true := by simp [hs0]
      have q1 : hGot e wt e s = false := by unfold hGot; simp [hs0]
      obtain rfl : false = Y := by rw [← HY.out, q1]
      obtain rfl : ⟨#[]⟩ = T := by rw [← HTT.out]; unfold hText; rw [q1]; rfl
      obtain rfl : wt = M := by rw [← HM.out]; unfold hWant; rw [q1]; rfl
      clear q1 hs0
      go_wp2
      go_ret2
      exact ⟨rfl, G3.out, _, _, L3.out, S3.out, K3.out⟩
    have h0 : (s == 0) = false := by simp [hs0]
    by_cases hs1 : s = wt
    rotate_left
    · have h1 : (s != wt) = true := by simp [hs1]
      have q1 : hGot e wt e s = false := by unfold hGot; simp [hs1]
      obtain rfl : false = Y := by rw [← HY.out, q1]
      obtain rfl : ⟨#[]⟩ = T := by rw [← HTT.out]; unfold hText; rw [q1]; rfl
      obtain rfl : wt = M := by rw [← HM.out]; unfold hWant; rw [q1]; rfl
      clear q1 hs0 hs1
      go_wp2
      go_ret2
      exact ⟨rfl, G3.out, _, _, L3.out, S3.out, K3.out⟩
    have h1 : (s != wt) = false := by simp [hs1]
    have q1 : hGot e wt e s = true := by unfold hGot; simp [hs1]; omega
    obtain rfl : true = Y := by rw [← HY.out, q1]
    obtain rfl : t = T := by rw [← HTT.out]; unfold hText; rw [q1]; rfl
    obtain rfl : wrap64 (wt + 1) = M := by rw [← HM.out]; unfold hWant; rw [q1]; rfl
    clear q1 hs0 hs1
    go_upto_region 9 with fail
    clear h0 h1 c1 f1 c0
    have g4 := wst (wre w3 (some b)) 3 (.int .i64 (wrap64 (wt + 1)))
    have x4 := L3.out.s3 (wrap64 (wt + 1))
    obtain ⟨W4, hW4⟩ : ∃ W, w3.setCell ⟨b, 3, none⟩ (.int .i64 (wrap64 (wt + 1))) = W := ⟨_, rfl⟩
    rw [hW4] at g4 x4
    rw [hW4]
    have L4 := hid x4
    have S4 := hid (S3.out.off g4 (fun q hq e => K3.out q hq (by simpa using e.symm)))
    have G4 := hid (wtr G3.out g4)
    have X4 := hid (X3.out.grown g4 (by have := HKW.out; simp; omega))
    clear hW4 g4 x4
    have c0 := X4.out.cells
    go_wp2_with fail
    refine (clone_any t _ HT.out).mono ?_; rintro y w5 ⟨rfl, hb5⟩
    have L5 := hid (L4.out.later hb5)
    have S5 := hid (S4.out.later hb5)
    have G5 := hid (wtr G4.out (gof (some b) hb5))
    clear hb5 c0
    go_wp2
    go_ret2
    exact ⟨rfl, G5.out, _, _, L5.out, S5.out, K3.out⟩
set_option maxHeartbeats 1600000 in
set_option maxRecDepth 100000 in
theorem implHearsS_any (lo hi : Nat) (ep nx wt : Int) (ga : Option Addr) (gn gc : Nat) (G : List ByteArray) (e s a : Int) (t : ByteArray) (w : World) (hgl : G.length = gn) (hgn : gn ≤ 1048576) (hz : ∀ x ∈ G, x.size ≤ 1048576) (hs : Ss lo hi w ga G) (hg0 : ga = none → gc = 0) (ht : t.size ≤ 1048576) (ha : 0 - 9223372036854775808 ≤ a ∧ a ≤ 9223372036854775807) (hnx : 1 ≤ nx) :
    Calls Tryd.prog 12 #[lkv ep (.slice ga gn gc) nx wt, pkv e s a t] w fun ex w' => ∃ ag cg, ex = .returned (.tuple #[lkv ep (.slice ag (hWay ep nx G e a).length cg) (hNext ep nx G e a) (hWant ep wt e s), .string (hText ep wt e s t), .bool (hGot ep wt e s)]) ∧ SlV w' w.heap.size ag (hWay ep nx G e a).length cg (hWay ep nx G e a) ∧ Below w.heap.size w w' := by
  obtain ⟨W0, hW0⟩ : ∃ W0, ((w.alloc (.cells #[.int .i64 ep, .slice ga gn gc, .int .i64 nx, .int .i64 wt] 34)).alloc (.cells #[.int .i64 e, .int .i64 s, .int .i64 a, .string t] 25)).alloc (.cells lk0 34) = W0 := ⟨_, rfl⟩
  have b0 : Below w.heap.size w W0 := by subst hW0; exact bpush (bpush (bpush (bre _) _) _) _
  have x0 : Lk W0 w.heap.size 34 ep (.slice ga gn gc) nx wt := by subst hW0; exact ((Lk.new w _ _ _ _ _).later (bpush (bre _) _)).later (bpush (bre _) _)
  have x1 : Pk W0 (w.heap.size + 1) 25 e s a t := by
    subst hW0
    have h := Pk.new (w.alloc (.cells #[.int .i64 ep, .slice ga gn gc, .int .i64 nx, .int .i64 wt] 34)) 25 e s a t
    simp at h
    exact h.later (bpush (bre _) _)
  have x2 : Lk W0 (w.heap.size + 1 + 1) 34 0 (.slice none 0 0) 0 0 := by
    subst hW0
    have h := Lk.new ((w.alloc (.cells #[.int .i64 ep, .slice ga gn gc, .int .i64 nx, .int .i64 wt] 34)).alloc (.cells #[.int .i64 e, .int .i64 s, .int .i64 a, .string t] 25)) 34 0 (.slice none 0 0) 0 0
    simpa using h
  have HC := hid (linkOf_any lo hi ep nx wt ga gn gc G W0 hgl hgn hz (hs.later b0) hg0)
  have HE := hid (fun (B b : Nat) (ga : Option Addr) (gc : Nat) (W : World) h1 h2 h3 => hears17_any B b ep nx wt ga gn gc G e s a t W h1 h2 h3 ht ha hnx)
  have A1 := hid x1
  have A2 := hid x2
  have B0 := hid b0
  have HW := hid hW0
  have c0 := x0.cells
  obtain ⟨T, hT⟩ : ∃ T, hText ep wt e s t = T := ⟨_, rfl⟩
  obtain ⟨Y, hY⟩ : ∃ Y, hGot ep wt e s = Y := ⟨_, rfl⟩
  obtain ⟨L, hL⟩ : ∃ L, hWay ep nx G e a = L := ⟨_, rfl⟩
  obtain ⟨N, hN⟩ : ∃ N, hNext ep nx G e a = N := ⟨_, rfl⟩
  obtain ⟨M, hM⟩ : ∃ M, hWant ep wt e s = M := ⟨_, rfl⟩
  rw [hT, hY, hL, hN, hM] at HE ⊢
  obtain ⟨n, hn⟩ : ∃ n, L.length = n := ⟨_, rfl⟩
  rw [hn] at HE ⊢
  have hsf : ∀ (a : Addr) (fn : Fn) (first cap : Array Value) (m : Mode) (w : World), (store a (.func fn first cap) m).run Tryd.prog w = stored Tryd.prog w a (.func fn first cap) m := fun a fn first cap m w => run_store Tryd.prog w a _ m rfl
  clear x0 x1 x2 b0 hW0 hs hg0 hgn hgl hT hY hL hN hM hn ha hnx hz ht
  go_enter Tryd.func12, Tryd.ntmps12
  go_wp2_with fail
  rw [HW.out]
  clear HW
  refine HC.out.mono ?_; rintro ex w1 ⟨ag, cg, rfl, hx, ho, hb⟩
  have LW : Hid (w.heap.size + 1 + 1 < W0.heap.size ∧ W0.heap.size < w1.heap.size) := hid ⟨A2.out.lt, hx.lt⟩
  obtain ⟨w2, hw2⟩ : ∃ x, w1.alloc (.cells #[lkF1 W0.heap.size, lkF2 W0.heap.size, lkF3 W0.heap.size, lkF4 W0.heap.size] 68) = x := ⟨_, rfl⟩
  have b2 : Below w1.heap.size w1 w2 := by subst hw2; exact bpush (bre _) _
  have e2 : Lf w2 w1.heap.size 68 (lkF1 W0.heap.size) (lkF2 W0.heap.size) (lkF3 W0.heap.size) (lkF4 W0.heap.size) := by subst hw2; exact Lf.new _ _ _ _ _ _
  have P2 := hid ((A1.out.later hb).later b2)
  have A2 := hid ((A2.out.later hb).later b2)
  have B2 := hid (btr (btr B0.out hb) b2)
  have NB : ∀ j, Value.ownBlock (.slice ag gn cg) = some j → W0.heap.size < j ∧ j < w1.heap.size := fun j hj => World.ownsRow.lt ho j hj
  have HEE := hid (HE.out (W0.heap.size + 1) W0.heap.size ag cg w2 (hx.later b2) ((SlV.of ho).later b2) (fun q hq => by have := NB q hq; omega))
  have E2 := hid e2
  clear hx ho hb A1 B0 HC c0 HE b2 e2 NB
  go_upto_region 2 with fail
  clear hw2
  have ce := E2.out.cells
  have cp := P2.out.cells
  go_wp2_with fail
  refine HEE.out.mono ?_; rintro ex w3 ⟨rfl, hg, a', c', hx3, hs3, hk3⟩
  have lw := LW.out
  have hA := A2.out.grown hg (by simp; omega)
  have hE := E2.out.grown hg (by simp; omega)
  have hB : Below w.heap.size w w3 := B2.out.trans (below_of_grown hg (by omega) B2.out.size)
  have HN := hid (now17_any W0.heap.size ep N M a' n c' w3 hx3)
  have A3 := hid hA
  have S3 := hid hs3
  have B3 := hid hB
  clear ce cp
  have ce := hE.cells
  clear hA hE hB hx3 hs3 hg A2 B2 E2 HEE lw P2 hk3
  go_wp2_with fail
  refine HN.out.mono ?_; rintro ex w4 ⟨rfl, hb4⟩
  have A4 := A3.out.later hb4
  have S4 := hid (S3.out.later hb4)
  have B4 := hid (btr B3.out hb4)
  have c1 := A4.cells
  have f1 := A4.loose
  have A5 := hid A4
  clear A4 hb4 A3 S3 B3 ce
  go_wp2
  have lw := LW.out
  have g3 := putL_grown w4 (w.heap.size + 1 + 1) ep (.slice a' n c') N M
  have d := (A5.out.put ep (.slice a' n c') N M).cells
  have o5 := (S4.out.off g3 (fun q hq e => by have := (S4.out.2.2.2.2 q hq).1; simp at e; omega)).base (show w.heap.size ≤ W0.heap.size + 1 by omega)
  have b5 := B4.out.trans (below_of_grown g3 (by omega) B4.out.size)
  unfold putL at g3 d o5 b5
  exact bodyPost_ret (v := .tuple #[lkv ep (.slice a' n c') N M, .string T, .bool Y]) (by simp [results, Tryd.results12, go_sem, d]) rfl ⟨_, _, rfl, o5, b5⟩
theorem text1_any (cb : Nat) (ao : Option Addr) (n cap : Nat) (w : World) (hn : n ≤ 1048576) (hcur : Cur w cb ao n cap) (hcode : Code w cb ao n) :
    Calls Tryd.prog 57 #[.pointer (some ⟨cb, 0, none⟩), .int .i64 1] w fun e w' => ∃ x : ByteArray, x.size = 1 ∧ e = .returned (.string x) ∧ Cur w' cb ao n cap ∧ w.grownBy w' (some cb) := by
  refine (text_any cb ao n cap 1 w hn hcur hcode (by decide)).mono ?_
  rintro e w1 ⟨bs, hb, rfl, hc, hg⟩
  exact ⟨_, by show bs.toArray.size = 1; simp [hb], rfl, hc, hg⟩
set_option maxHeartbeats 1600000 in
set_option maxRecDepth 100000 in
theorem spoilt_any (cb : Nat) (ao : Option Addr) (n cap : Nat) (s : ByteArray) (w : World) (hn : n ≤ 1048576) (hs : s.size ≤ 100000) (hcur : Cur w cb ao n cap) (hcode : Code w cb ao n) :
    Calls Tryd.prog 34 #[.pointer (some ⟨cb, 0, none⟩), .string s] w fun e w' => ∃ x : ByteArray, x.size ≤ 300000 ∧ e = .returned (.string x) ∧ w.grownBy w' (some cb) := by
  have HC := hid hcur
  have HO := hid hcode
  clear hcur hcode
  go_enter Tryd.func34, Tryd.ntmps34
  go_wp2_with fail
  refine (below4 cb ao n cap _ hn HC.out HO.out 12 (by decide) (by decide)).mono ?_; rintro e w1 ⟨k, hk, rfl, hc, hg⟩
  have C1 := hid hc
  have O1 := hid (HO.out.later hg)
  have G1 := hid hg
  clear hc hg HC HO
  by_cases h0 : k = 0
  · subst h0
    go_wp2_with fail
    refine (text1_any cb ao n cap _ hn C1.out O1.out).mono ?_; rintro e w2 ⟨x, hx, rfl, hc, hg⟩
    have G2 := hid (only_trans G1.out hg)
    clear hc hg
    go_wp2
    go_ret
    exact ⟨s ++ x, by rw [ByteArray.size_append]; omega, rfl, G2.out⟩
  by_cases h1 : k = 1
  · subst h1
    go_wp2_with fail
    refine (below4 cb ao n cap _ hn C1.out O1.out ((s.size : Int) + 1) (by omega) (by omega)).mono ?_; rintro e w2 ⟨x, hx, rfl, hc, hg⟩
    have G2 := hid (only_trans G1.out hg)
    have hI : (0 : Int) ≤ (x : Int) ∧ (x : Int) ≤ (s.size : Int) := by omega
    clear hc hg
    go_wp2
    go_ret
    exact ⟨s.extract 0 x, by rw [ByteArray.size_extract]; omega, by simp, G2.out⟩
  have hk0 : ((k : Int) == 0) = false := beq_eq_false_iff_ne.2 (by omega)
  have hk1 : ((k : Int) == 1) = false := beq_eq_false_iff_ne.2 (by omega)
  by_cases h2 : k = 2 ∨ k = 3
  · by_cases hz : 0 < s.size
    · have hzI : (0 : Int) < (s.size : Int) := by omega
      rcases h2 with rfl | rfl
      all_goals
        go_wp2_with fail
        refine (below4 cb ao n cap _ hn C1.out O1.out (s.size : Int) (by omega) (by omega)).mono ?_; rintro e w2 ⟨i, hi, rfl, hc, hg⟩
        have G2 := hid (only_trans G1.out hg)
        have C2 := hid hc
        have O2 := hid (O1.out.later hg)
        have hI : (0 : Int) ≤ (i : Int) ∧ (i : Int) ≤ (s.size : Int) := by omega
        have hI1 : (0 : Int) ≤ (i : Int) + 1 ∧ (i : Int) + 1 ≤ (s.size : Int) := by omega
        clear hc hg
        go_wp2_with fail
        have hw : IntKind.i64.wrap ((i : Int) + 1) = (i : Int) + 1 := wrap_small _ (by omega) (by omega)
        have O2d : Hid (Code w2.drew cb ao n) := O2.out
        have C2d : Hid (Cur w2.drew cb ao n cap) := C2.out
        obtain ⟨p, hp⟩ : ∃ p, s.extract 0 i = p := ⟨_, rfl⟩
        obtain ⟨q, hq⟩ : ∃ q, s.extract (i + 1) s.size = q := ⟨_, rfl⟩
        have zp : p.size ≤ 100000 := by rw [← hp, ByteArray.size_extract]; omega
        have zq : q.size ≤ 100000 := by rw [← hq, ByteArray.size_extract]; omega
        go_region_held3 (fun _ => True) (trivial)
          ((go_at_call 57; refine (text1_any cb ao n cap w2.drew hn C2d.out O2d.out).mono ?_; rintro e w3 ⟨x, hx, rfl, hc, hg⟩; have G3 : Hid (w.grownBy w3 (some cb)) := only_trans G2.out (wtr (grown_below (bdr (bre w2)) _) hg); have n1 : (p.size + x.size > 9223372036854775807) = False := eq_false (by omega); have n2 : (p.size + x.size + q.size > 9223372036854775807) = False := eq_false (by omega); have HXS := hid hx; clear hc hg hx))
        clear n1 n2
        go_wp2
        go_ret
        exact ⟨p ++ x ++ q, by have := HXS.out; rw [ByteArray.size_append, ByteArray.size_append]; omega, rfl, G3.out⟩
    · have hzI : ¬ (0 : Int) < (s.size : Int) := by omega
      rcases h2 with rfl | rfl
      all_goals
        go_wp2
        go_ret
        exact ⟨s, by omega, rfl, G1.out⟩
  · have hk2 : ((k : Int) == 2) = false := beq_eq_false_iff_ne.2 (by omega)
    have hk3 : ((k : Int) == 3) = false := beq_eq_false_iff_ne.2 (by omega)
    go_wp2
    go_ret
    exact ⟨s, by omega, rfl, G1.out⟩
theorem Code.off17 {w w' : World} {cb n : Nat} {ao : Option Addr} {r : Option Nat} (h : Code w cb ao n) (hg : w.grownBy w' r) (hw : cb ≤ w.heap.size) (hr : ∀ j, r = some j → cb ≤ j) : Code w' cb ao n := by
  intro hn
  obtain ⟨b, off, h1, h2, h3⟩ := h hn
  refine ⟨b, off, h1, h2, fun j hj => ?_⟩
  obtain ⟨z, hz, hc⟩ := h3 j hj
  exact ⟨z, hz, (cell_sameT (p := ⟨b, off + j, none⟩) (hg.block b (by omega) (fun e => by have := hr b e.symm; omega))).trans hc⟩
/-- While something is drawn. -/
def DrS (w W : World) (cb : Nat) (ao : Option Addr) (n cap : Nat) : Prop := Cur W cb ao n cap ∧ Code W cb ao n ∧ w.grownBy W (some cb) ∧ cb < w.heap.size
section
variable {w W W' : World} {cb n cap : Nat} {ao : Option Addr}
theorem DrS.first (hc : Cur w cb ao n cap) (ho : Code w cb ao n) : DrS w w cb ao n cap := ⟨hc, ho, wre _ _, hc.lt⟩
theorem DrS.step (h : DrS w W cb ao n cap) (hc : Cur W' cb ao n cap) (hg : W.grownBy W' (some cb)) : DrS w W' cb ao n cap := ⟨hc, h.2.1.later hg, wtr h.2.2.1 hg, h.2.2.2⟩
theorem DrS.push (h : DrS w W cb ao n cap) (hb : Below W.heap.size W W') : DrS w W' cb ao n cap := ⟨h.1.later hb h.1.lt, h.2.1.later (gof _ hb), wtr h.2.2.1 (gof _ hb), h.2.2.2⟩
theorem DrS.put (h : DrS w W cb ao n cap) {k : Nat} (hk : w.heap.size ≤ k) (hg : W.grownBy W' (some k)) : DrS w W' cb ao n cap := by
  have hc := h.1.lt
  have hw := h.2.2.2
  refine ⟨?_, h.2.1.off17 hg (by omega) (fun j hj => by simp at hj; omega), ⟨hg.os.trans h.2.2.1.os, hg.tape.trans h.2.2.1.tape, hg.output.trans h.2.2.1.output, Nat.le_trans h.2.2.1.size hg.size, fun i hi hr => (hg.block i (Nat.lt_of_lt_of_le hi h.2.2.1.size) (by simp; omega)).trans (h.2.2.1.block i hi hr)⟩, hw⟩
  obtain ⟨i, x, h1, h2⟩ := h.1
  exact ⟨i, x, h1, (hg.block cb hc (by simp; omega)).trans h2⟩
end
theorem three_texts17 (w : World) (x y z : ByteArray) (e : Nat) : ∀ i (h : i < [x, y, z].length), (w.alloc (.cells #[.string x, .string y, .string z] e)).cell? ⟨w.heap.size, i, none⟩ = some (.string [x, y, z][i]) := by
  intro i hi
  have h := heap_alloc_new w (.cells #[.string x, .string y, .string z] e)
  have h2 : i = 0 ∨ i = 1 ∨ i = 2 := by simp at hi; omega
  rcases h2 with rfl | rfl | rfl
  · exact cell_of_row _ _ 0 _ _ _ h
  · exact cell_of_row _ _ 1 _ _ _ h
  · exact cell_of_row _ _ 2 _ _ _ h
theorem four_ints17 (w : World) (x y z u : Int) (e : Nat) : ∀ i (h : i < [x, y, z, u].length), (w.alloc (.cells #[.int .i64 x, .int .i64 y, .int .i64 z, .int .i64 u] e)).cell? ⟨w.heap.size, i, none⟩ = some (.int .i64 [x, y, z, u][i]) := by
  intro i hi
  have h := heap_alloc_new w (.cells #[.int .i64 x, .int .i64 y, .int .i64 z, .int .i64 u] e)
  have h2 : i = 0 ∨ i = 1 ∨ i = 2 ∨ i = 3 := by simp at hi; omega
  rcases h2 with rfl | rfl | rfl | rfl
  · exact cell_of_row _ _ 0 _ _ _ h
  · exact cell_of_row _ _ 1 _ _ _ h
  · exact cell_of_row _ _ 2 _ _ _ h
  · exact cell_of_row _ _ 3 _ _ _ h
/-- A packet as it is drawn: not always a right one. -/
def Pd17 (a : Int) (t : ByteArray) : Prop := t.size ≤ 401 ∧ (0 - 9223372036854775808 ≤ a ∧ a ≤ 9223372036854775807)
set_option maxHeartbeats 3200000 in
set_option maxRecDepth 100000 in
theorem l17Packet_any (cb : Nat) (ao : Option Addr) (n cap : Nat) (w : World) (hn : n ≤ 1048576) (hcur : Cur w cb ao n cap) (hcode : Code w cb ao n) :
    Calls Tryd.prog 20 #[.pointer (some ⟨cb, 0, none⟩)] w fun z w' => ∃ (e s a : Int) (t : ByteArray), Pd17 a t ∧ z = .returned (pkv e s a t) ∧ Cur w' cb ao n cap ∧ w.grownBy w' (some cb) := by
  have D := hid (DrS.first hcur hcode)
  have HCB := hid hcur.lt
  clear hcur hcode
  obtain ⟨W0, hW0⟩ : ∃ W0, w.alloc (.cells pk0 25) = W0 := ⟨_, rfl⟩
  have b0 : Below w.heap.size w W0 := by subst hW0; exact bpush (bre _) _
  have R := hid (show Pk W0 w.heap.size 25 0 0 0 ⟨#[]⟩ by subst hW0; exact Pk.new _ _ _ _ _ _)
  replace D := hid (D.out.push b0)
  have HW0 := hid hW0
  clear b0 hW0
  go_enter Tryd.func20, Tryd.ntmps20
  go_wp2_with fail
  rw [HW0.out]
  refine (below4 cb ao n cap _ hn D.out.1 D.out.2.1 3 (by decide) (by decide)).mono ?_; rintro z w1 ⟨e, he, rfl, hc, hg⟩
  have He := hid he
  replace R := hid (R.out.grown hg (by have := HCB.out; simp; omega))
  replace D := hid (D.out.step hc hg)
  clear hc hg he
  go_wp2_with fail
  refine (below4 cb ao n cap _ hn D.out.1 D.out.2.1 5 (by decide) (by decide)).mono ?_; rintro z w2 ⟨s, hs, rfl, hc, hg⟩
  have Hs := hid hs
  replace R := hid (R.out.grown hg (by have := HCB.out; simp; omega))
  replace D := hid (D.out.step hc hg)
  clear hc hg hs
  go_wp2_with fail
  refine (below4 cb ao n cap _ hn D.out.1 D.out.2.1 6 (by decide) (by decide)).mono ?_; rintro z w3 ⟨a, ha, rfl, hc, hg⟩
  have Ha := hid ha
  replace R := hid (R.out.grown hg (by have := HCB.out; simp; omega))
  replace D := hid (D.out.step hc hg)
  clear hc hg ha
  go_wp2_with fail
  have b4 : Below w3.heap.size w3 (w3.alloc (.cells #[.string ⟨#[111, 110, 101]⟩, .string ⟨#[116, 119, 111]⟩, .string ⟨#[]⟩] 9)) := bpush (bre _) _
  have D4 := D.out.push b4
  have lc := D.out.1.lt
  refine (pick_any cb w3.heap.size 3 3 [⟨#[111, 110, 101]⟩, ⟨#[116, 119, 111]⟩, ⟨#[]⟩] ao n cap _ hn D4.1 D4.2.1 rfl (by decide) (by decide) (by omega) (by decide) (three_texts17 w3 _ _ _ 9)).mono ?_; rintro z w5 ⟨t, ht, rfl, hc, hg⟩
  have HT := hid ht
  replace R := hid ((R.out.later b4).grown hg (by have := HCB.out; simp; omega))
  replace D := hid (D4.step hc hg)
  clear hc hg ht b4 D4 lc
  obtain ⟨w6, hw6⟩ : ∃ W, w5.alloc (.cells #[.int .i64 (e : Int), .int .i64 (s : Int), .int .i64 (a : Int), .string t] 25) = W := ⟨_, rfl⟩
  have b6 : Below w5.heap.size w5 w6 := by subst hw6; exact bpush (bre _) _
  have P := hid (show Pk w6 w5.heap.size 25 (e : Int) (s : Int) (a : Int) t by subst hw6; exact Pk.new _ _ _ _ _ _)
  have HK : Hid (w.heap.size < w5.heap.size ∧ cb < w5.heap.size) := hid ⟨R.out.lt, D.out.1.lt⟩
  replace R := hid (R.out.later b6)
  replace D := hid (D.out.push b6)
  clear b6
  go_wp2_with fail
  clear hw6
  refine (below4 cb ao n cap _ hn D.out.1 D.out.2.1 12 (by decide) (by decide)).mono ?_; rintro z w7 ⟨k, hk, rfl, hc, hg⟩
  have Hk := hid hk
  replace R := hid (R.out.grown hg (by have := HCB.out; simp; omega))
  replace P := hid (P.out.grown hg (by have := HK.out; simp; omega))
  replace D := hid (D.out.step hc hg)
  clear hc hg hk
  by_cases h0 : k = 0
  · subst h0
    go_wp2_with fail
    have b8 : Below w7.heap.size w7 (w7.alloc (.cells #[.int .i64 (-1), .int .i64 1000000001, .int .i64 9223372036854775807] 3)) := bpush (bre _) _
    have D8 := D.out.push b8
    have lc := D.out.1.lt
    refine (pickInt_any cb w7.heap.size 3 [-1, 1000000001, 9223372036854775807] ao n cap _ hn D8.1 D8.2.1 rfl (by decide) (by decide) (by omega) (three_ints w7 _ _ _ 3)).mono ?_; rintro z w8 ⟨x, hx, rfl, hc, hg⟩
    replace R := hid ((R.out.later b8).grown hg (by have := HCB.out; simp; omega))
    replace P := hid ((P.out.later b8).grown hg (by have := HK.out; simp; omega))
    replace D := hid (D8.step hc hg)
    clear hc hg b8 D8 lc hx
    have cp := P.out.cells
    have fp := P.out.loose
    go_upto_region 9 with fail
    have g9 := wst (wre w8 (some w5.heap.size)) 1 (.int .i64 x)
    have p9 := P.out.s1 x
    have r9 := R.out.grown g9 (by have := HK.out; simp; omega)
    have d9 := D.out.put (by have := HK.out; omega) g9
    obtain ⟨w9, hw9⟩ : ∃ W, w8.setCell ⟨w5.heap.size, 1, none⟩ (.int .i64 x) = W := ⟨_, rfl⟩
    rw [hw9] at p9 r9 d9
    rw [hw9]
    clear hw9 g9 cp fp
    replace P := hid p9
    replace R := hid r9
    replace D := hid d9
    clear p9 r9 d9
    have cr := R.out.cells
    have fr := R.out.loose
    have cp := P.out.cells
    go_wp2
    have g3 := putP_grown w9 w.heap.size (e : Int) x (a : Int) t
    have d := (R.out.put (e : Int) x (a : Int) t).cells
    have D9 := D.out.put (Nat.le_refl _) g3
    unfold putP at d D9
    exact bodyPost_ret (v := pkv (e : Int) x (a : Int) t) (by simp [results, Tryd.results20, go_sem, d]) rfl ⟨_, _, _, _, ⟨by have := HT.out; omega, by have := Ha.out; omega⟩, rfl, D9.1, D9.2.2.1⟩
  by_cases h1 : k = 1
  · subst h1
    go_wp2_with fail
    have b8 : Below w7.heap.size w7 (w7.alloc (.cells #[.int .i64 (-9223372036854775808), .int .i64 9223372036854775807] 3)) := bpush (bre _) _
    have D8 := D.out.push b8
    have lc := D.out.1.lt
    refine (pickInt_any cb w7.heap.size 2 [-9223372036854775808, 9223372036854775807] ao n cap _ hn D8.1 D8.2.1 rfl (by decide) (by decide) (by omega) (two_ints w7 _ _ 3)).mono ?_; rintro z w8 ⟨x, hx, rfl, hc, hg⟩
    have HX : Hid (0 - 9223372036854775808 ≤ x ∧ x ≤ 9223372036854775807) := hid (by simp at hx; omega)
    replace R := hid ((R.out.later b8).grown hg (by have := HCB.out; simp; omega))
    replace P := hid ((P.out.later b8).grown hg (by have := HK.out; simp; omega))
    replace D := hid (D8.step hc hg)
    clear hc hg b8 D8 lc hx
    have cp := P.out.cells
    have fp := P.out.loose
    go_upto_region 9 with fail
    have g9 := wst (wre w8 (some w5.heap.size)) 2 (.int .i64 x)
    have p9 := P.out.s2 x
    have r9 := R.out.grown g9 (by have := HK.out; simp; omega)
    have d9 := D.out.put (by have := HK.out; omega) g9
    obtain ⟨w9, hw9⟩ : ∃ W, w8.setCell ⟨w5.heap.size, 2, none⟩ (.int .i64 x) = W := ⟨_, rfl⟩
    rw [hw9] at p9 r9 d9
    rw [hw9]
    clear hw9 g9 cp fp
    replace P := hid p9
    replace R := hid r9
    replace D := hid d9
    clear p9 r9 d9
    have cr := R.out.cells
    have fr := R.out.loose
    have cp := P.out.cells
    go_wp2
    have g3 := putP_grown w9 w.heap.size (e : Int) (s : Int) x t
    have d := (R.out.put (e : Int) (s : Int) x t).cells
    have D9 := D.out.put (Nat.le_refl _) g3
    unfold putP at d D9
    exact bodyPost_ret (v := pkv (e : Int) (s : Int) x t) (by simp [results, Tryd.results20, go_sem, d]) rfl ⟨_, _, _, _, ⟨by have := HT.out; omega, HX.out⟩, rfl, D9.1, D9.2.2.1⟩
  have hk0 : ((k : Int) == 0) = false := beq_eq_false_iff_ne.2 (by omega)
  have hk1 : ((k : Int) == 1) = false := beq_eq_false_iff_ne.2 (by omega)
  by_cases h2 : k = 2
  · subst h2
    go_wp2_with fail
    refine (below4 cb ao n cap _ hn D.out.1 D.out.2.1 2 (by decide) (by decide)).mono ?_; rintro z w8 ⟨q, hq, rfl, hc, hg⟩
    have Hq := hid hq
    replace R := hid (R.out.grown hg (by have := HCB.out; simp; omega))
    replace P := hid (P.out.grown hg (by have := HK.out; simp; omega))
    replace D := hid (D.out.step hc hg)
    clear hc hg hq
    obtain ⟨Q, hQ⟩ : ∃ Q : Nat, 400 + q = Q := ⟨_, rfl⟩
    have hQi : (400 : Int) + (q : Int) = (Q : Int) := by omega
    have HQ : Hid (Q ≤ 401) := hid (by have := Hq.out; omega)
    clear hQ
    have hQb : Q ≤ 401 := HQ.out
    have CL : Hid (∀ W, Calls Tryd.prog 41 #[.int .i64 (Q : Int), .int .u8 97] W fun e w' => ∃ bs : List UInt8, bs.length = Q ∧ e = .returned (.string ⟨bs.toArray⟩) ∧ Below W.heap.size W w') := hid (fun W => long_any Q 97 W (by have := HQ.out; omega))
    go_wp2_with fail
    refine (CL.out _).mono ?_; rintro z w9 ⟨bs, hbs, rfl, hb⟩
    obtain ⟨u, hu⟩ : ∃ u : ByteArray, ⟨bs.toArray⟩ = u := ⟨_, rfl⟩
    have HU : Hid (u.size ≤ 401) := hid (by rw [← hu]; show bs.toArray.size ≤ 401; have := HQ.out; simp; omega)
    rw [hu]
    replace R := hid (R.out.later hb)
    replace P := hid (P.out.later hb)
    replace D := hid (D.out.push hb)
    clear hb hbs hu hQi
    have cp := P.out.cells
    have fp := P.out.loose
    go_upto_region 9 with fail
    have g9 := wst (wre w9 (some w5.heap.size)) 3 (.string u)
    have p9 := P.out.s3 u
    have r9 := R.out.grown g9 (by have := HK.out; simp; omega)
    have d9 := D.out.put (by have := HK.out; omega) g9
    obtain ⟨x9, hw9⟩ : ∃ W, w9.setCell ⟨w5.heap.size, 3, none⟩ (.string u) = W := ⟨_, rfl⟩
    rw [hw9] at p9 r9 d9
    rw [hw9]
    clear hw9 g9 cp fp
    replace P := hid p9
    replace R := hid r9
    replace D := hid d9
    clear p9 r9 d9
    have cr := R.out.cells
    have fr := R.out.loose
    have cp := P.out.cells
    go_wp2
    have g3 := putP_grown x9 w.heap.size (e : Int) (s : Int) (a : Int) u
    have d := (R.out.put (e : Int) (s : Int) (a : Int) u).cells
    have D9 := D.out.put (Nat.le_refl _) g3
    unfold putP at d D9
    exact bodyPost_ret (v := pkv (e : Int) (s : Int) (a : Int) u) (by simp [results, Tryd.results20, go_sem, d]) rfl ⟨_, _, _, _, ⟨HU.out, by have := Ha.out; omega⟩, rfl, D9.1, D9.2.2.1⟩
  have hk2 : ((k : Int) == 2) = false := beq_eq_false_iff_ne.2 (by omega)
  have cr := R.out.cells
  have fr := R.out.loose
  have cp := P.out.cells
  go_wp2
  have g3 := putP_grown w7 w.heap.size (e : Int) (s : Int) (a : Int) t
  have d := (R.out.put (e : Int) (s : Int) (a : Int) t).cells
  have D9 := D.out.put (Nat.le_refl _) g3
  unfold putP at d D9
  exact bodyPost_ret (v := pkv (e : Int) (s : Int) (a : Int) t) (by simp [results, Tryd.results20, go_sem, d]) rfl ⟨_, _, _, _, ⟨by have := HT.out; omega, by have := Ha.out; omega⟩, rfl, D9.1, D9.2.2.1⟩
end Go.Proofs.YtnbobidpmiieiaaDoor
