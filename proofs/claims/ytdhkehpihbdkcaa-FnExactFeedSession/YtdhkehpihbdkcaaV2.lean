/- Svd, Spa, Spb, Sve, OpenN. -/
import Derived.Test.YtdhkehpihbdkcaaV1
namespace Go.Proofs.Ytdhkehpihbdkcaa
open Go.RowKit Go.ChangeMaps
set_option maxHeartbeats 800000 in
set_option maxRecDepth 100000 in
theorem eqSn_any (l1 h1 l2 h2 : Nat) (i o : ByteArray) (n v : Bool) (b : Int) (ga ga' : Option Addr) (gn gc gc' : Nat) (G : List Int) (w : World) (hl : G.length = gn) (hn : gn ≤ 1048576) (ha : Is l1 h1 w ga G) (hb : Is l2 h2 w ga' G) :
    Calls Try.prog 7 #[snv i o n v b (.slice ga gn gc), snv i o n v b (.slice ga' gn gc')] w fun e w' => e = .returned (.bool true) ∧ Below w.heap.size w w' := by
  obtain ⟨W0, hW0⟩ : ∃ W0, (w.alloc (.cells #[.string i, .string o, .bool n, .bool v, .int .i64 b, .slice ga gn gc] 24)).alloc (.cells #[.string i, .string o, .bool n, .bool v, .int .i64 b, .slice ga' gn gc'] 24) = W0 := ⟨_, rfl⟩
  have b0 : Below w.heap.size w W0 := by subst hW0; exact bpush (bpush (bre _) _) _
  have x0 : Sn W0 w.heap.size 24 i o n v b (.slice ga gn gc) := by subst hW0; exact (Sn.new w _ _ _ _ _ _ _).later (bpush (bre _) _)
  have x1 : Sn W0 (w.heap.size + 1) 24 i o n v b (.slice ga' gn gc') := by
    subst hW0
    have h := Sn.new (w.alloc (.cells #[.string i, .string o, .bool n, .bool v, .int .i64 b, .slice ga gn gc] 24)) 24 i o n v b (.slice ga' gn gc')
    simpa using h
  have HC := hid (eqIntS_any l1 h1 l2 h2 ga ga' gn gc gc' G W0 hl hn (ha.later b0) (hb.later b0))
  have B0 := hid b0
  have c0 := x0.cells
  have c1 := x1.cells
  clear x0 x1 b0 ha hb hl
  have e1 : (!i.toList == i.toList) = false := by simp
  have e2 : (!o.toList == o.toList) = false := by simp
  have e3 : (b != b) = false := by simp
  have e4 : (n != n) = false := by simp
  have e5 : (v != v) = false := by simp
  go_enter Try.func7, Try.ntmps7
  go_wp2_with fail
  clear hW0
  refine HC.out.mono ?_; rintro e w1 ⟨rfl, hb⟩
  have B1 := hid (btr B0.out hb)
  clear hb c0 c1
  go_wp2
  go_ret
  exact ⟨rfl, B1.out⟩
set_option maxHeartbeats 800000 in
set_option maxRecDepth 100000 in
theorem markSn_any (B : Nat) (i o : ByteArray) (n v : Bool) (b : Int) (ga : Option Addr) (gn gc k : Nat) (G : List Int) (w : World) (hown : OwI w B (.slice ga gn gc) G) (hl : G.length = gn) (hn : gn ≤ 1048576) (hk : k ≤ 8000000) :
    Calls Try.prog 8 #[snv i o n v b (.slice ga gn gc), .int .i64 (k : Int)] w fun e w' => e = .returned (.int .i64 ((k + gn : Nat) : Int)) ∧ OwI w' B (.slice ga gn gc) (mki k gn) ∧ w.grownBy w' (Value.ownBlock (.slice ga gn gc)) := by
  obtain ⟨W0, hW0⟩ : ∃ W0, w.alloc (.cells #[.string i, .string o, .bool n, .bool v, .int .i64 b, .slice ga gn gc] 24) = W0 := ⟨_, rfl⟩
  have b0 : Below w.heap.size w W0 := by subst hW0; exact bpush (bre _) _
  have x0 : Sn W0 w.heap.size 24 i o n v b (.slice ga gn gc) := by subst hW0; exact Sn.new w _ _ _ _ _ _ _
  have G0 := hid (show w.grownBy W0 (Value.ownBlock (.slice ga gn gc)) by subst hW0; exact World.grownBy_alloc _ _ _)
  have HC := hid (markIS_any B ga gn gc k G W0 (own_later hown b0) hl hn hk)
  have c0 := x0.cells
  clear x0 b0 hown hl
  go_enter Try.func8, Try.ntmps8
  go_wp2_with fail
  clear hW0
  refine HC.out.mono ?_; rintro e w1 ⟨rfl, ho, hg⟩
  have HO := hid ho
  have HG := hid (wtr G0.out hg)
  clear ho hg c0
  go_wp2
  go_ret
  exact ⟨rfl, HO.out, HG.out⟩
set_option maxHeartbeats 800000 in
set_option maxRecDepth 100000 in
theorem heldSn_any (B : Nat) (i o : ByteArray) (n v : Bool) (b : Int) (ga : Option Addr) (gn gc k : Nat) (w : World) (hown : OwI w B (.slice ga gn gc) (mki k gn)) (hn : gn ≤ 1048576) (hk : k ≤ 8000000) :
    Calls Try.prog 9 #[snv i o n v b (.slice ga gn gc), .int .i64 (k : Int)] w fun e w' => e = .returned (.int .i64 ((k + gn : Nat) : Int)) ∧ Below w.heap.size w w' := by
  obtain ⟨W0, hW0⟩ : ∃ W0, w.alloc (.cells #[.string i, .string o, .bool n, .bool v, .int .i64 b, .slice ga gn gc] 24) = W0 := ⟨_, rfl⟩
  have b0 : Below w.heap.size w W0 := by subst hW0; exact bpush (bre _) _
  have x0 : Sn W0 w.heap.size 24 i o n v b (.slice ga gn gc) := by subst hW0; exact Sn.new w _ _ _ _ _ _ _
  have HC := hid (heldIS_any B ga gn gc k W0 (own_later hown b0) hn hk)
  have B0 := hid b0
  have c0 := x0.cells
  clear x0 b0 hown
  have h2 : ¬ ((k + gn : Nat) : Int) < 0 := by omega
  go_enter Try.func9, Try.ntmps9
  go_wp2_with fail
  clear hW0
  refine HC.out.mono ?_; rintro e w1 ⟨rfl, rfl⟩
  clear c0
  go_wp2
  go_ret
  exact ⟨rfl, B0.out⟩
theorem markSn1 (B : Nat) (i o : ByteArray) (n v : Bool) (b : Int) (ga : Option Addr) (gn gc : Nat) (G : List Int) (w : World) (hown : OwI w B (.slice ga gn gc) G) (hl : G.length = gn) (hn : gn ≤ 1048576) :
    Calls Try.prog 8 #[snv i o n v b (.slice ga gn gc), .int .i64 1] w fun e w' => e = .returned (.int .i64 ((1 + gn : Nat) : Int)) ∧ OwI w' B (.slice ga gn gc) (mki 1 gn) ∧ w.grownBy w' (Value.ownBlock (.slice ga gn gc)) :=
  markSn_any B i o n v b ga gn gc 1 G w hown hl hn (by decide)
theorem heldSn1 (B : Nat) (i o : ByteArray) (n v : Bool) (b : Int) (ga : Option Addr) (gn gc : Nat) (w : World) (hown : OwI w B (.slice ga gn gc) (mki 1 gn)) (hn : gn ≤ 1048576) :
    Calls Try.prog 9 #[snv i o n v b (.slice ga gn gc), .int .i64 1] w fun e w' => e = .returned (.int .i64 ((1 + gn : Nat) : Int)) ∧ Below w.heap.size w w' :=
  heldSn_any B i o n v b ga gn gc 1 w hown hn (by decide)
theorem own_off15 {W W' : World} {B : Nat} {r : Option Nat} {v : Value} {G : List Int} (h : OwI W B v G) (hg : W.grownBy W' r) (hk : ∀ j, v.ownBlock = some j → r ≠ some j) : OwI W' B v G := World.ownsRow.kept h hg (by
  cases hv : Value.ownBlock v with
  | none => exact Or.inl rfl
  | some j => exact Or.inr (fun e => hk j hv e.symm))
theorem is_far15 {lo hi : Nat} {W W' : World} {ga : Option Addr} {G : List Int} {r : Option Nat} (h : Is lo hi W ga G) (hg : W.grownBy W' r) (hk : ∀ j, r = some j → hi ≤ j) : Is lo hi W' ga G :=
  h.same (Nat.le_trans h.1 hg.size) (fun j _ h2 => hg.block j (Nat.lt_of_lt_of_le h2 h.1) (fun e => by have := hk j e.symm; omega))
theorem is_off15 {lo hi : Nat} {W W' : World} {ga : Option Addr} {G : List Int} {k : Nat} (h : Is lo hi W ga G) (hg : W.grownBy W' (some k)) (hk : hi ≤ k) : Is lo hi W' ga G :=
  h.same (Nat.le_trans h.1 hg.size) (fun j _ h2 => hg.block j (Nat.lt_of_lt_of_le h2 h.1) (by simp; omega))
/-- What is left of the room. -/
def szn (i o n : Nat) : Int := if i + o + n ≤ 1048576 then 1048576 - (i : Int) - (o : Int) - (n : Int) else -1
set_option maxHeartbeats 800000 in
set_option maxRecDepth 100000 in
theorem szSn_any (i o : ByteArray) (n v : Bool) (b : Int) (ga : Option Addr) (gn gc : Nat) (w : World) (hi : (i.size : Int) ≤ 9223372036854775807) (ho : (o.size : Int) ≤ 9223372036854775807) (hn : (gn : Int) ≤ 9223372036854775807) :
    Calls Try.prog 10 #[snv i o n v b (.slice ga gn gc), .int .i64 1048576] w fun e w' => e = .returned (.int .i64 (szn i.size o.size gn)) ∧ Below w.heap.size w w' := by
  obtain ⟨W0, hW0⟩ : ∃ W0, w.alloc (.cells #[.string i, .string o, .bool n, .bool v, .int .i64 b, .slice ga gn gc] 29) = W0 := ⟨_, rfl⟩
  have b0 : Below w.heap.size w W0 := by subst hW0; exact bpush (bre _) _
  have x0 : Sn W0 w.heap.size 29 i o n v b (.slice ga gn gc) := by subst hW0; exact Sn.new w _ _ _ _ _ _ _
  have B0 := hid b0
  have c0 := x0.cells
  have HN := hid hn
  clear x0 b0 hn
  have hw : wrap64 (1048576 - (i.size : Int)) = 1048576 - (i.size : Int) := by unfold wrap64; omega
  by_cases h1 : i.size ≤ 1048576
  · have h1' : ¬ 1048576 - (i.size : Int) < 0 := by omega
    have hw2 : wrap64 (1048576 - (i.size : Int) - (o.size : Int)) = 1048576 - (i.size : Int) - (o.size : Int) := by unfold wrap64; omega
    by_cases h2 : i.size + o.size ≤ 1048576
    · have h2' : ¬ 1048576 - (i.size : Int) - (o.size : Int) < 0 := by omega
      obtain ⟨lf, hlf⟩ : ∃ lf, 1048576 - (i.size : Int) - (o.size : Int) = lf := ⟨_, rfl⟩
      have HC := hid (fun (W : World) => szIntS_any ga gn gc lf W HN.out (by omega))
      rw [hlf] at h2' hw2
      by_cases h3 : i.size + o.size + gn ≤ 1048576
      · have HE : szn i.size o.size gn = lf - gn := by unfold szn; rw [if_pos h3, ← hlf]
        have HF : szr lf gn = lf - gn := szr_fits (by omega)
        have h4 : ¬ lf - (gn : Int) < 0 := by omega
        rw [HE]
        rw [HF] at HC
        clear HE HF h1 h2 h3 hi ho
        go_enter Try.func10, Try.ntmps10
        go_wp2_with fail
        clear hW0
        refine (HC.out _).mono ?_; rintro e w1 ⟨rfl, rfl⟩
        go_wp2
        go_ret
        exact ⟨rfl, B0.out⟩
      · have HE : szn i.size o.size gn = -1 := if_neg h3
        have HF : szr lf gn = -1 := szr_over (by omega)
        rw [HE]
        rw [HF] at HC
        clear HE HF h1 h2 h3 hi ho
        go_enter Try.func10, Try.ntmps10
        go_wp2_with fail
        clear hW0
        refine (HC.out _).mono ?_; rintro e w1 ⟨rfl, rfl⟩
        go_wp2
        go_ret
        exact ⟨rfl, B0.out⟩
    · have HE : szn i.size o.size gn = -1 := if_neg (by omega)
      rw [HE]
      have h2' : 1048576 - (i.size : Int) - (o.size : Int) < 0 := by omega
      clear HE h1 h2 hi ho
      go_enter Try.func10, Try.ntmps10
      go_wp2
      go_ret
      exact ⟨rfl, B0.out⟩
  · have HE : szn i.size o.size gn = -1 := if_neg (by omega)
    rw [HE]
    have h1' : 1048576 - (i.size : Int) < 0 := by omega
    clear HE h1 hi ho
    go_enter Try.func10, Try.ntmps10
    go_wp2
    go_ret
    exact ⟨rfl, B0.out⟩
set_option maxHeartbeats 1600000 in
set_option maxRecDepth 100000 in
theorem toSn_any (lo hi : Nat) (i o : ByteArray) (n v : Bool) (b : Int) (ga : Option Addr) (gn gc : Nat) (G : List Int) (w : World) (hl : G.length = gn) (hn : gn ≤ 1048576) (hs : Is lo hi w ga G) (hhi : hi ≤ w.heap.size) :
    Calls Try.prog 12 #[snv i o n v b (.slice ga gn gc)] w fun e w' => ∃ kg, e = .returned (snv i o n v b (.slice (some ⟨kg, 0, none⟩) gn gn)) ∧ OwI w' w.heap.size (.slice (some ⟨kg, 0, none⟩) gn gn) G ∧ Below w.heap.size w w' := by
  obtain ⟨W0, hW0⟩ : ∃ W0, ((w.alloc (.cells #[.string i, .string o, .bool n, .bool v, .int .i64 b, .slice ga gn gc] 29)).alloc (.cells sn0 24)).alloc (.cells sn0 24) = W0 := ⟨_, rfl⟩
  have b0 : Below w.heap.size w W0 := by subst hW0; exact bpush (bpush (bpush (bre _) _) _) _
  have x0 : Sn W0 w.heap.size 29 i o n v b (.slice ga gn gc) := by subst hW0; exact ((Sn.new w _ _ _ _ _ _ _).later (bpush (bre _) _)).later (bpush (bre _) _)
  have x1 : Sn W0 (w.heap.size + 1) 24 ⟨#[]⟩ ⟨#[]⟩ false false 0 (.slice none 0 0) := by
    subst hW0
    have h := Sn.new (w.alloc (.cells #[.string i, .string o, .bool n, .bool v, .int .i64 b, .slice ga gn gc] 29)) 24 ⟨#[]⟩ ⟨#[]⟩ false false 0 (.slice none 0 0)
    simp at h
    exact h.later (bpush (bre _) _)
  have x2 : Sn W0 (w.heap.size + 1 + 1) 24 ⟨#[]⟩ ⟨#[]⟩ false false 0 (.slice none 0 0) := by
    subst hW0
    have h := Sn.new ((w.alloc (.cells #[.string i, .string o, .bool n, .bool v, .int .i64 b, .slice ga gn gc] 29)).alloc (.cells sn0 24)) 24 ⟨#[]⟩ ⟨#[]⟩ false false 0 (.slice none 0 0)
    simpa using h
  have HIS := hid (hs.later b0)
  have HHI : Hid (hi ≤ w.heap.size + 1 + 1) := hid (by omega)
  have X1 := hid x1
  have X2 := hid x2
  have B0 := hid b0
  have HW := hid hW0
  have c0 := x0.cells
  have c2 := x2.cells
  have f2 := x2.loose
  clear x0 x1 x2 b0 hW0 hs
  go_enter Try.func12, Try.ntmps12
  go_upto_region 2 with fail
  rw [HW.out]
  clear HW
  go_wp2_with fail
  have g1 := wst (wst (wst (wst (wst (wre W0 (some (w.heap.size + 1 + 1))) 0 (.string i)) 1 (.string o)) 2 (.bool n)) 3 (.bool v)) 4 (.int .i64 b)
  have y2 := ((((X2.out.s0 i).s1 o).s2 n).s3 v).s4 b
  have y1 := X1.out.grown g1 (by simp)
  have hlt : w.heap.size + 1 + 1 < W0.heap.size := X2.out.lt
  have hle := B0.out.size
  have b1 : Below w.heap.size w _ := B0.out.trans (below_of_grown g1 (by omega) hle)
  obtain ⟨V, hV⟩ : ∃ W, ((((W0.setCell ⟨w.heap.size + 1 + 1, 0, none⟩ (.string i)).setCell ⟨w.heap.size + 1 + 1, 1, none⟩ (.string o)).setCell ⟨w.heap.size + 1 + 1, 2, none⟩ (.bool n)).setCell ⟨w.heap.size + 1 + 1, 3, none⟩ (.bool v)).setCell ⟨w.heap.size + 1 + 1, 4, none⟩ (.int .i64 b) = W := ⟨_, rfl⟩
  rw [hV] at g1 y2 y1 b1
  rw [hV]
  have hs1 : Is lo hi V ga G := is_off15 HIS.out g1 HHI.out
  have hlv : w.heap.size + 1 + 1 < V.heap.size := y2.lt
  clear hV c0 c2 f2 g1 X1 X2 B0
  refine (toIntS_any lo hi ga gn gc G V hl hn hs1).mono ?_; rintro e w3 ⟨rfl, ho, hb⟩
  have Y1 := hid (y1.later hb)
  have Y2 := hid (y2.later hb)
  have B3 := hid (btr b1 hb)
  have HO := hid ho
  have HL := hid hlv
  have HW0 := hid hle
  have c1 := Y1.out.cells
  have f1 := Y1.out.loose
  have c2 := Y2.out.cells
  have f2 := Y2.out.loose
  clear y1 y2 b1 ho hb hs1 hlv hle hlt hl
  go_wp2
  have g2 := wst (wre w3 (some (w.heap.size + 1 + 1))) 5 (.slice (some ⟨V.heap.size, 0, none⟩) gn gn)
  have g3 := put6_grown (w3.setCell ⟨w.heap.size + 1 + 1, 5, none⟩ (.slice (some ⟨V.heap.size, 0, none⟩) gn gn)) (w.heap.size + 1) i o n v b (.slice (some ⟨V.heap.size, 0, none⟩) gn gn)
  have d := ((Y1.out.grown g2 (by simp)).put i o n v b (.slice (some ⟨V.heap.size, 0, none⟩) gn gn)).cells
  have hl := HL.out
  unfold put6 at d g3
  refine bodyPost_ret (v := snv i o n v b (.slice (some ⟨V.heap.size, 0, none⟩) gn gn)) (by simp [results, Try.results12, go_sem, d]) rfl ⟨_, rfl, own_base (OwI.grown (OwI.grown HO.out g2 (by omega)) g3 (by omega)) (by omega), ?_⟩
  exact B3.out.trans ((below_of_grown g2 (by omega) B3.out.size).trans (below_of_grown g3 (by omega) (Nat.le_trans B3.out.size g2.size)))
set_option maxHeartbeats 1600000 in
set_option maxRecDepth 100000 in
theorem copyOfSession_any (lo hi : Nat) (i o : ByteArray) (n v : Bool) (b : Int) (ga : Option Addr) (gn gc : Nat) (G : List Int) (w : World) (hi1 : i.size ≤ 1048576) (ho1 : o.size ≤ 1048576) (hgl : G.length = gn) (hgn : gn ≤ 1048576) (hs : Is lo hi w ga G) (hg0 : ga = none → gc = 0) :
    Calls Try.prog 21 #[snv i o n v b (.slice ga gn gc)] w fun e w' => ∃ ag cg, e = .returned (snv i o n v b (.slice ag gn cg)) ∧ OwI w' w.heap.size (.slice ag gn cg) G ∧ Below w.heap.size w w' := by
  obtain ⟨W0, hW0⟩ : ∃ W0, (w.alloc (.cells #[.string i, .string o, .bool n, .bool v, .int .i64 b, .slice ga gn gc] 24)).alloc (.cells sn0 24) = W0 := ⟨_, rfl⟩
  have b0 : Below w.heap.size w W0 := by subst hW0; exact bpush (bpush (bre _) _) _
  have x0 : Sn W0 w.heap.size 24 i o n v b (.slice ga gn gc) := by subst hW0; exact (Sn.new w _ _ _ _ _ _ _).later (bpush (bre _) _)
  have x1 : Sn W0 (w.heap.size + 1) 24 ⟨#[]⟩ ⟨#[]⟩ false false 0 (.slice none 0 0) := by
    subst hW0
    have h := Sn.new (w.alloc (.cells #[.string i, .string o, .bool n, .bool v, .int .i64 b, .slice ga gn gc] 24)) 24 ⟨#[]⟩ ⟨#[]⟩ false false 0 (.slice none 0 0)
    simpa using h
  have HS := hid (hs.later b0)
  have HHI : Hid (hi ≤ w.heap.size) := hid hs.1
  have X0 := hid x0
  have X1 := hid x1
  have B0 := hid b0
  have HW := hid hW0
  have HI := hid hi1
  have HO := hid ho1
  have HGL := hid hgl
  have HGN := hid hgn
  have HG0 := hid hg0
  have c0 := x0.cells
  clear x0 x1 b0 hW0 hs hgl hgn hg0 hi1 ho1
  go_enter Try.func21, Try.ntmps21
  go_wp2_with fail
  rw [HW.out]
  clear HW c0
  refine (clone_any i _ HI.out).mono ?_; rintro e w1 ⟨rfl, hb⟩
  have X0 := hid (X0.out.later hb)
  have X1 := hid (X1.out.later hb)
  have HS := hid (HS.out.later hb)
  have B0 := hid (btr B0.out hb)
  have c0 := X0.out.cells
  have f0 := X0.out.loose
  clear hb
  go_wp2_with fail
  obtain ⟨V1, hV1⟩ : ∃ W, w1.setCell ⟨w.heap.size, 0, none⟩ (.string i) = W := ⟨_, rfl⟩
  have g1 := wst (wre w1 (some w.heap.size)) 0 (.string i)
  have y0 := X0.out.s0 i
  rw [hV1] at g1 y0 ⊢
  have X0 := hid y0
  have X1 := hid (X1.out.grown g1 (by simp))
  have HS := hid (is_off15 HS.out g1 HHI.out)
  have B0 := hid (B0.out.trans (below_of_grown g1 (Nat.le_refl _) B0.out.size))
  clear c0 f0 g1 y0 hV1
  refine (clone_any o _ HO.out).mono ?_; rintro e w2 ⟨rfl, hb⟩
  have X0 := hid (X0.out.later hb)
  have X1 := hid (X1.out.later hb)
  have HS := hid (HS.out.later hb)
  have B0 := hid (btr B0.out hb)
  have c0 := X0.out.cells
  have f0 := X0.out.loose
  clear hb
  go_wp2_with fail
  obtain ⟨V2, hV2⟩ : ∃ W, w2.setCell ⟨w.heap.size, 1, none⟩ (.string o) = W := ⟨_, rfl⟩
  have g1 := wst (wre w2 (some w.heap.size)) 1 (.string o)
  have y0 := X0.out.s1 o
  rw [hV2] at g1 y0 ⊢
  have X0 := hid y0
  have X1 := hid (X1.out.grown g1 (by simp))
  have HS := hid (is_off15 HS.out g1 HHI.out)
  have B0 := hid (B0.out.trans (below_of_grown g1 (Nat.le_refl _) B0.out.size))
  clear c0 f0 g1 y0 hV2
  have HLT : Hid (w.heap.size + 1 < V2.heap.size) := hid X1.out.lt
  refine (cloneI_any lo hi ga gn gc G _ HGL.out HGN.out HS.out HG0.out).mono ?_; rintro e w3 ⟨v1, rfl, ho, hb⟩
  obtain ⟨ag, cg, hvg, _⟩ := OwI.shape ho
  rw [HGL.out] at hvg
  subst hvg
  have X0 := hid (X0.out.later hb)
  have X1 := hid (X1.out.later hb)
  have hlt : Hid (w.heap.size + 1 < V2.heap.size) := HLT
  have B0 := hid (btr B0.out hb)
  have O := hid ho
  have c0 := X0.out.cells
  have f0 := X0.out.loose
  have c1 := X1.out.cells
  have f1 := X1.out.loose
  clear ho hb
  go_wp2
  have g2 := wst (wre w3 (some w.heap.size)) 5 (.slice ag gn cg)
  have g3 := put6_grown (w3.setCell ⟨w.heap.size, 5, none⟩ (.slice ag gn cg)) (w.heap.size + 1) i o n v b (.slice ag gn cg)
  have d := ((X1.out.grown g2 (by simp)).put i o n v b (.slice ag gn cg)).cells
  have hl := hlt.out
  unfold put6 at d g3
  refine bodyPost_ret (v := snv i o n v b (.slice ag gn cg)) (by simp [results, Try.results21, go_sem, d]) rfl ⟨_, _, rfl, own_base (OwI.grown (OwI.grown O.out g2 (by omega)) g3 (by omega)) (by omega), ?_⟩
  exact B0.out.trans ((below_of_grown g2 (by omega) B0.out.size).trans (below_of_grown g3 (by omega) (Nat.le_trans B0.out.size g2.size)))
set_option maxHeartbeats 1600000 in
set_option maxRecDepth 100000 in
theorem implFeed_any (lo hi : Nat) (i o : ByteArray) (n v : Bool) (b : Int) (ga : Option Addr) (gn gc : Nat) (G : List Int) (t : ByteArray) (w : World) (hi1 : i.size ≤ 1048576) (ho1 : o.size ≤ 1048576) (ht1 : t.size ≤ 1048576) (hgl : G.length = gn) (hgn : gn ≤ 1048576) (hs : Is lo hi w ga G) (hg0 : ga = none → gc = 0) :
    Calls Try.prog 13 #[snv i o n v b (.slice ga gn gc), .string t] w fun e w' => ∃ ag cg, e = .returned (.tuple #[snv (fsi i t v) o n v b (.slice ag gn cg), .bool (fso i t v)]) ∧ OwI w' w.heap.size (.slice ag gn cg) G ∧ Below w.heap.size w w' := by
  obtain ⟨W0, hW0⟩ : ∃ W0, (w.alloc (.cells #[.string i, .string o, .bool n, .bool v, .int .i64 b, .slice ga gn gc] 24)).alloc (.cells sn0 24) = W0 := ⟨_, rfl⟩
  have b0 : Below w.heap.size w W0 := by subst hW0; exact bpush (bpush (bre _) _) _
  have x0 : Sn W0 w.heap.size 24 i o n v b (.slice ga gn gc) := by subst hW0; exact (Sn.new w _ _ _ _ _ _ _).later (bpush (bre _) _)
  have x1 : Sn W0 (w.heap.size + 1) 24 ⟨#[]⟩ ⟨#[]⟩ false false 0 (.slice none 0 0) := by
    subst hW0
    have h := Sn.new (w.alloc (.cells #[.string i, .string o, .bool n, .bool v, .int .i64 b, .slice ga gn gc] 24)) 24 ⟨#[]⟩ ⟨#[]⟩ false false 0 (.slice none 0 0)
    simpa using h
  have HC := hid (copyOfSession_any lo hi i o n v b ga gn gc G W0 hi1 ho1 hgl hgn (hs.later b0) hg0)
  have X0 := hid x0
  have X1 := hid x1
  have B0 := hid b0
  have HW := hid hW0
  have c0 := x0.cells
  clear x0 x1 b0 hW0 hs hgl hgn hg0
  have hw1 : wrap64 ((i.size : Int) + (t.size : Int)) = (i.size : Int) + (t.size : Int) := by unfold wrap64; omega
  obtain ⟨I, k, e1, e2, hways⟩ := fso_ways i t v
  rw [e1, e2]
  have HY := hid hways
  have HI := hid hi1
  have HT := hid ht1
  clear e1 e2 hways hi1 ho1 ht1
  go_enter Try.func13, Try.ntmps13
  go_wp2_with fail
  rw [HW.out]
  clear HW
  refine HC.out.mono ?_; rintro e w1 ⟨ag, cg, rfl, ho, hb⟩
  have hlt : Hid (w.heap.size + 1 < W0.heap.size) := hid X1.out.lt
  have hle : Hid (W0.heap.size ≤ w1.heap.size) := hid hb.size
  have HLT : Hid (∀ j, Value.ownBlock (.slice ag gn cg) = some j → j < w1.heap.size) := fun j hj => (World.ownsRow.lt ho j hj).2
  obtain ⟨w2, hw2⟩ : ∃ W, w1.alloc (.cells #[.string i, .string o, .bool n, .bool v, .int .i64 b, .slice ag gn cg] 24) = W := ⟨_, rfl⟩
  have b2 : Below w1.heap.size w1 w2 := by subst hw2; exact bpush (bre _) _
  have x2 : Sn w2 w1.heap.size 24 i o n v b (.slice ag gn cg) := by subst hw2; exact Sn.new w1 _ _ _ _ _ _ _
  have O2 := hid (show OwI w2 W0.heap.size (.slice ag gn cg) G from own_later ho b2)
  have Y0 := hid ((X0.out.later hb).later b2)
  have Y1 := hid ((X1.out.later hb).later b2)
  have Y2 := hid x2
  have B2 := hid (btr (btr B0.out hb) b2)
  have c1 := Y0.out.cells
  have c2 := x2.cells
  have f2 := x2.loose
  have c3 := Y1.out.cells
  have f3 := Y1.out.loose
  clear ho hb b2 x2 X0 X1 B0 c0 HC
  rcases HY.out with ⟨rfl, rfl, rfl, h3, h4⟩ | ⟨rfl, rfl, rfl | ⟨rfl, h3⟩ | ⟨rfl, h3, h4⟩⟩
  · clear HY
    have HL : Hid ((i ++ t).size ≤ 1048576) := hid (by rw [ByteArray.size_append]; omega)
    have hl : w.heap.size + 1 < w1.heap.size := by have h1 := hlt.out; have h2 := hle.out; omega
    clear h3
    go_wp2_with fail
    clear c1 c2 c3 f2 f3 hw2
    refine (clone_any (i ++ t) _ HL.out).mono ?_; rintro e w3 ⟨rfl, hb⟩
    have Y1 := hid (Y1.out.later hb)
    have Y2 := hid (Y2.out.later hb)
    have O2 := hid (own_later O2.out hb)
    have B2 := hid (btr B2.out hb)
    have c2 := Y2.out.cells
    have f2 := Y2.out.loose
    have c3 := Y1.out.cells
    have f3 := Y1.out.loose
    clear hb
    go_wp2
    have g2 := wst (wre w3 (some w1.heap.size)) 0 (.string (i ++ t))
    have g3 := put6_grown (w3.setCell ⟨w1.heap.size, 0, none⟩ (.string (i ++ t))) (w.heap.size + 1) (i ++ t) o n false b (.slice ag gn cg)
    have d := ((Y1.out.grown g2 (by simp; omega)).put (i ++ t) o n false b (.slice ag gn cg)).cells
    unfold put6 at d g3
    have ho2 := OwI.grown (own_apart15 O2.out g2 HLT.out) g3 (by have := hlt.out; omega)
    refine bodyPost_ret (v := .tuple #[snv (i ++ t) o n false b (.slice ag gn cg), .bool true]) (by simp [results, Try.results13, go_sem, d]) rfl ⟨_, _, rfl, own_base ho2 (by have := hlt.out; omega), ?_⟩
    exact B2.out.trans ((below_of_grown g2 (by omega) B2.out.size).trans (below_of_grown g3 (by omega) (Nat.le_trans B2.out.size g2.size)))
  · clear HY
    go_wp2
    have g3 := put6_grown w2 (w.heap.size + 1) I o n true b (.slice ag gn cg)
    have d := (Y1.out.put I o n true b (.slice ag gn cg)).cells
    unfold put6 at d g3
    have ho2 := OwI.grown O2.out g3 (by have := hlt.out; omega)
    refine bodyPost_ret (v := .tuple #[snv I o n true b (.slice ag gn cg), .bool false]) (by simp [results, Try.results13, go_sem, d]) rfl ⟨_, _, rfl, own_base ho2 (by have := hlt.out; omega), ?_⟩
    exact B2.out.trans (below_of_grown g3 (by omega) B2.out.size)
  · clear HY
    have h4 : (400 : Int) < (I.size : Int) + (t.size : Int) := by omega
    clear h3
    go_wp2
    have g3 := put6_grown w2 (w.heap.size + 1) I o n false b (.slice ag gn cg)
    have d := (Y1.out.put I o n false b (.slice ag gn cg)).cells
    unfold put6 at d g3
    have ho2 := OwI.grown O2.out g3 (by have := hlt.out; omega)
    refine bodyPost_ret (v := .tuple #[snv I o n false b (.slice ag gn cg), .bool false]) (by simp [results, Try.results13, go_sem, d]) rfl ⟨_, _, rfl, own_base ho2 (by have := hlt.out; omega), ?_⟩
    exact B2.out.trans (below_of_grown g3 (by omega) B2.out.size)
  · clear HY h3
    go_wp2
    have g3 := put6_grown w2 (w.heap.size + 1) I o n false b (.slice ag gn cg)
    have d := (Y1.out.put I o n false b (.slice ag gn cg)).cells
    unfold put6 at d g3
    have ho2 := OwI.grown O2.out g3 (by have := hlt.out; omega)
    refine bodyPost_ret (v := .tuple #[snv I o n false b (.slice ag gn cg), .bool false]) (by simp [results, Try.results13, go_sem, d]) rfl ⟨_, _, rfl, own_base ho2 (by have := hlt.out; omega), ?_⟩
    exact B2.out.trans (below_of_grown g3 (by omega) B2.out.size)
/-- What comes of FeedSession, in letters. -/
theorem pairFeed (i o : ByteArray) (n v : Bool) (b : Int) (gn : Nat) (G : List Int) (t : ByteArray) (hi1 : i.size ≤ 1048576) (ho1 : o.size ≤ 1048576) (ht1 : t.size ≤ 1048576) (hgl : G.length = gn) (hgn : gn ≤ 1048576) :
    ∃ (I : ByteArray) (ok : Bool), Hid (∀ (lo hi kg : Nat) (w : World), Is lo hi w (some ⟨kg, 0, none⟩) G → Calls Try.prog 11 #[snv i o n v b (.slice (some ⟨kg, 0, none⟩) gn gn), .string t] w fun e w' => ∃ ag cg, e = .returned (.tuple #[snv I o n v b (.slice ag gn cg), .bool ok]) ∧ OwI w' w.heap.size (.slice ag gn cg) G ∧ Below w.heap.size w w') ∧
      Hid (∀ (lo hi kg : Nat) (w : World), Is lo hi w (some ⟨kg, 0, none⟩) G → Calls Try.prog 13 #[snv i o n v b (.slice (some ⟨kg, 0, none⟩) gn gn), .string t] w fun e w' => ∃ ag cg, e = .returned (.tuple #[snv I o n v b (.slice ag gn cg), .bool ok]) ∧ OwI w' w.heap.size (.slice ag gn cg) G ∧ Below w.heap.size w w') :=
  ⟨_, _, fun lo hi kg w h => specFeed_any lo hi i o n v b _ gn gn G t w hi1 ht1 hgl hgn h (by intro h; cases h), fun lo hi kg w h => implFeed_any lo hi i o n v b _ gn gn G t w hi1 ho1 ht1 hgl hgn h (by intro h; cases h)⟩
set_option maxHeartbeats 6400000 in
set_option maxRecDepth 100000 in
theorem lawFeed_any (i o : ByteArray) (n v : Bool) (b : Int) (ga : Option Addr) (gn gc : Nat) (G : List Int) (t : ByteArray) (w : World) (hi1 : (i.size : Int) ≤ 9223372036854775807) (ho1 : (o.size : Int) ≤ 9223372036854775807) (ht1 : (t.size : Int) ≤ 9223372036854775807) (hgl : G.length = gn) (hgn : (gn : Int) ≤ 9223372036854775807) (hs : Is 0 w.heap.size w ga G) :
    Calls Try.prog 4 #[snv i o n v b (.slice ga gn gc), .string t] w fun e w' => e = .returned (.bool true) ∧ Below w.heap.size w w' := by
  obtain ⟨W0, hW0⟩ : ∃ W0, w.alloc (.cells #[.string i, .string o, .bool n, .bool v, .int .i64 b, .slice ga gn gc] 29) = W0 := ⟨_, rfl⟩
  have b0 : Below w.heap.size w W0 := by subst hW0; exact bpush (bre _) _
  have x0 : Sn W0 w.heap.size 29 i o n v b (.slice ga gn gc) := by subst hW0; exact Sn.new w _ _ _ _ _ _ _
  have A0 := hid x0
  have BE := hid b0
  have IA := hid (hs.later b0)
  have HI1 := hid hi1
  have HO1 := hid ho1
  have HGN := hid hgn
  have HGL := hid hgl
  have c0 := x0.cells
  clear x0 b0 hs hi1 ho1 hgn hgl
  by_cases ht : t.size ≤ 1048576
  rotate_left
  · have h2 : (1048576 : Int) < (t.size : Int) := by omega
    go_enter Try.func4, Try.ntmps4
    go_wp2
    clear hW0
    go_ret
    exact ⟨rfl, BE.out⟩
  · have h2 : ¬ (1048576 : Int) < (t.size : Int) := by omega
    have HT := hid ht
    go_enter Try.func4, Try.ntmps4
    clear ht
    go_wp2_with fail
    clear hW0
    refine (szSn_any i o n v b ga gn gc _ HI1.out HO1.out HGN.out).mono ?_; rintro e w1 ⟨rfl, hb⟩
    have A0 := hid (A0.out.later hb)
    have IA := hid (IA.out.later hb)
    have BE := hid (btr BE.out hb)
    clear hb c0 h2 ht1
    by_cases hbig : ¬ i.size + o.size + gn ≤ 1048576
    · rw [show szn i.size o.size gn = -1 from if_neg hbig]
      clear hbig
      go_wp2
      go_ret
      exact ⟨rfl, BE.out⟩
    have hfit : i.size + o.size + gn ≤ 1048576 := by omega
    have hn1 : gn ≤ 1048576 := by omega
    have hi1 : i.size ≤ 1048576 := by omega
    have h3 : ¬ szn i.size o.size gn < 0 := by unfold szn; rw [if_pos hfit]; omega
    obtain ⟨I, ok, CS, CI⟩ := pairFeed i o n v b gn G t hi1 (by omega) HT.out HGL.out hn1
    have HN1 := hid hn1
    clear hbig hfit hi1 hn1 HI1 HO1
    have q0 := A0.out.cells
    go_wp2_with fail
    clear q0 h3
    refine (toSn_any 0 w.heap.size i o n v b ga gn gc G _ HGL.out HN1.out IA.out BE.out.size).mono ?_; rintro e w2 ⟨kg, rfl, ho, hb⟩
    have A0 := hid (A0.out.later hb)
    have IA := hid (IA.out.later hb)
    have BE := hid (btr BE.out hb)
    have R2 := hid (OwI.is ho).2
    clear ho hb
    go_wp2_with fail
    refine (CS.out _ _ kg _ R2.out).mono ?_; rintro e w3 ⟨ah, ch, rfl, ho, hb⟩
    have A0 := hid (A0.out.later hb)
    have IA := hid (IA.out.later hb)
    have BE := hid (btr BE.out hb)
    have BE0 : Hid (w.heap.size ≤ w3.heap.size) := hid BE.out.size
    obtain ⟨w3b, hw3b⟩ : ∃ W, w3.alloc (.cells #[.string I, .string o, .bool n, .bool v, .int .i64 b, .slice ah gn ch] 24) = W := ⟨_, rfl⟩
    have b3 : Below w3.heap.size w3 w3b := by subst hw3b; exact bpush (bre _) _
    have S3 := hid (show Sn w3b w3.heap.size 24 I o n v b (.slice ah gn ch) by subst hw3b; exact Sn.new w3 _ _ _ _ _ _ _)
    have A0 := hid (A0.out.later b3)
    have IA := hid (IA.out.later b3)
    have BE := hid (btr BE.out b3)
    have OS := hid (own_later ho b3)
    have HSl : Hid (∀ j, Value.ownBlock (.slice ah gn ch) = some j → j < w3b.heap.size) := fun j hj => Nat.lt_of_lt_of_le (World.ownsRow.lt ho j hj).2 b3.size
    have N1 : Hid (w.heap.size ≤ w3.heap.size ∧ w3.heap.size < w3b.heap.size) := hid ⟨by have h := A0.out; have h2 := BE0.out; exact h2, S3.out.lt⟩
    clear ho hb b3 R2 CS
    have q0 := A0.out.cells
    go_wp2_with fail
    clear q0 hw3b
    refine (toSn_any 0 w.heap.size i o n v b ga gn gc G _ HGL.out HN1.out IA.out BE.out.size).mono ?_; rintro e w4 ⟨kx, rfl, ho, hb⟩
    have A0 := hid (A0.out.later hb)
    have IA := hid (IA.out.later hb)
    have S3 := hid (S3.out.later hb)
    have OS := hid (own_later OS.out hb)
    have BE := hid (btr BE.out hb)
    obtain ⟨w4b, hw4b⟩ : ∃ W, w4.alloc (.cells #[.string i, .string o, .bool n, .bool v, .int .i64 b, .slice (some ⟨kx, 0, none⟩) gn gn] 24) = W := ⟨_, rfl⟩
    have b4 : Below w4.heap.size w4 w4b := by subst hw4b; exact bpush (bre _) _
    have X4 := hid (show Sn w4b w4.heap.size 24 i o n v b (.slice (some ⟨kx, 0, none⟩) gn gn) by subst hw4b; exact Sn.new w4 _ _ _ _ _ _ _)
    have hx := World.ownsRow.lt ho kx rfl
    have HX : Hid (w3b.heap.size ≤ kx ∧ kx < w4.heap.size) := hx
    have A0 := hid (A0.out.later b4)
    have IA := hid (IA.out.later b4)
    have S3 := hid (S3.out.later b4)
    have OS := hid (own_later OS.out b4)
    have BE := hid (btr BE.out b4)
    have OX := hid (own_later ho b4)
    have N4 : Hid (w4.heap.size < w4b.heap.size) := hid X4.out.lt
    clear ho hb b4 hx
    have q0 := X4.out.cells
    go_wp2_with fail
    clear q0 hw4b
    refine (CI.out _ _ kx _ (OwI.is OX.out).2).mono ?_; rintro e w5 ⟨ag, cg, rfl, ho, hb⟩
    have A0 := hid (A0.out.later hb)
    have IA := hid (IA.out.later hb)
    have S3 := hid (S3.out.later hb)
    have OS := hid (own_later OS.out hb)
    have X4 := hid (X4.out.later hb)
    have OX := hid (own_later OX.out hb)
    have BE := hid (btr BE.out hb)
    obtain ⟨w5b, hw5b⟩ : ∃ W, w5.alloc (.cells #[.string I, .string o, .bool n, .bool v, .int .i64 b, .slice ag gn cg] 24) = W := ⟨_, rfl⟩
    have b5 : Below w5.heap.size w5 w5b := by subst hw5b; exact bpush (bre _) _
    have G5 := hid (show Sn w5b w5.heap.size 24 I o n v b (.slice ag gn cg) by subst hw5b; exact Sn.new w5 _ _ _ _ _ _ _)
    have A0 := hid (A0.out.later b5)
    have IA := hid (IA.out.later b5)
    have S3 := hid (S3.out.later b5)
    have OS := hid (own_later OS.out b5)
    have X4 := hid (X4.out.later b5)
    have OX := hid (own_later OX.out b5)
    have BE := hid (btr BE.out b5)
    have OG := hid (own_later ho b5)
    have HGl : Hid (∀ j, Value.ownBlock (.slice ag gn cg) = some j → w4b.heap.size ≤ j ∧ j < w5.heap.size) := fun j hj => World.ownsRow.lt ho j hj
    have N5 : Hid (w4b.heap.size ≤ w5.heap.size) := hid hb.size
    clear ho hb b5
    have q0 := G5.out.cells
    have q1 := S3.out.cells
    go_wp2_with fail
    clear q0 q1 hw5b
    obtain ⟨hGe, hGi⟩ := OwI.is OG.out
    obtain ⟨hSe, hSi⟩ := OwI.is OS.out
    refine (eqSn_any _ _ _ _ I o n v b ag ah gn cg ch G _ HGL.out HN1.out hGi hSi).mono ?_; rintro e w6 ⟨rfl, hb⟩
    clear hGe hGi hSe hSi
    have A0 := hid (A0.out.later hb)
    have IA := hid (IA.out.later hb)
    have S3 := hid (S3.out.later hb)
    have OS := hid (own_later OS.out hb)
    have X4 := hid (X4.out.later hb)
    have OX := hid (own_later OX.out hb)
    have G5 := hid (G5.out.later hb)
    have OG := hid (own_later OG.out hb)
    have BE := hid (btr BE.out hb)
    clear hb
    have HSQ := hid (fun (W : World) (h : Below w6.heap.size w6 W) => And.intro (A0.out.later h).cells (X4.out.later h).cells)
    go_upto_region 12 with fail
    go_region_held3 (fun W => (W.cell? ⟨w.heap.size, 0, none⟩ = some (.string i) ∧ W.cell? ⟨w.heap.size, 1, none⟩ = some (.string o) ∧ W.cell? ⟨w.heap.size, 2, none⟩ = some (.bool n) ∧ W.cell? ⟨w.heap.size, 3, none⟩ = some (.bool v) ∧ W.cell? ⟨w.heap.size, 4, none⟩ = some (.int .i64 b) ∧ W.cell? ⟨w.heap.size, 5, none⟩ = some (.slice ga gn gc)) ∧ (W.cell? ⟨w4.heap.size, 0, none⟩ = some (.string i) ∧ W.cell? ⟨w4.heap.size, 1, none⟩ = some (.string o) ∧ W.cell? ⟨w4.heap.size, 2, none⟩ = some (.bool n) ∧ W.cell? ⟨w4.heap.size, 3, none⟩ = some (.bool v) ∧ W.cell? ⟨w4.heap.size, 4, none⟩ = some (.int .i64 b) ∧ W.cell? ⟨w4.heap.size, 5, none⟩ = some (.slice (some ⟨kx, 0, none⟩) gn gn)))
      ((refine HSQ.out _ ?_; repeat (first | exact bdr (bre _) | refine btr ?_ (by assumption))))
      ((first
        | (go_at_call 12; (with_reducible refine (toSn_any 0 w.heap.size i o n v b ga gn gc G _ HGL.out HN1.out (IA.out.later (by repeat (first | exact bdr (bre _) | exact bre _ | refine btr ?_ (by assumption)))) (Nat.le_trans BE.out.size (Below.size (w := w6) (B := w6.heap.size) (by repeat (first | exact bdr (bre _) | exact bre _ | refine btr ?_ (by assumption)))))).mono ?_); rintro e w7 ⟨ky, rfl, hoy, hb7⟩)
        | (go_at_call 7; (with_reducible refine (eqSn_any _ _ _ _ i o n v b (some ⟨kx, 0, none⟩) (some ⟨ky, 0, none⟩) gn gn gn G _ HGL.out HN1.out (OwI.is (own_later OX.out (by repeat (first | exact bdr (bre _) | exact bre _ | refine btr ?_ (by assumption))))).2 (OwI.is (own_later hoy (by repeat (first | exact bdr (bre _) | exact bre _ | refine btr ?_ (by assumption))))).2).mono ?_); rintro e w8 ⟨rfl, hb8⟩)))
    have hb : Below w6.heap.size w6 w8 := by repeat (first | exact bdr (bre _) | exact bre _ | refine btr ?_ (by assumption))
    have A0 := hid (A0.out.later hb)
    have IA := hid (IA.out.later hb)
    have S3 := hid (S3.out.later hb)
    have OS := hid (own_later OS.out hb)
    have X4 := hid (X4.out.later hb)
    have OX := hid (own_later OX.out hb)
    have G5 := hid (G5.out.later hb)
    have OG := hid (own_later OG.out hb)
    have BE := hid (btr BE.out hb)
    clear hb hb7 hb8 hoy HSQ
    have q0 := X4.out.cells
    go_wp2_with fail
    clear q0
    refine (markSn1 _ i o n v b (some ⟨kx, 0, none⟩) gn gn G _ OX.out HGL.out HN1.out).mono ?_; rintro e w9 ⟨rfl, -, hg⟩
    have hg1 : w8.grownBy w9 (some kx) := hg
    have n1 := N1.out; have n3 := HX.out; have n4 := N4.out; have n5 := N5.out
    have A0 := hid (A0.out.grown hg1 (by simp; omega))
    have S3 := hid (S3.out.grown hg1 (by simp; omega))
    have G5 := hid (G5.out.grown hg1 (by simp; omega))
    have IA := hid (is_far15 IA.out hg1 (fun j hj => by simp at hj; omega))
    have OS := hid (own_off15 OS.out hg1 (fun j hj => by have := HSl.out j hj; simp; omega))
    have OG := hid (own_off15 OG.out hg1 (fun j hj => by have := HGl.out j hj; simp; omega))
    have BE := hid (BE.out.trans (below_of_grown hg1 (by omega) BE.out.size))
    clear hg hg1 n1 n3 n4 n5 X4 OX
    have hk0 : ¬ ((1 + gn : Nat) : Int) < 0 := by omega
    have q0 := G5.out.cells
    have q1 := S3.out.cells
    go_wp2_with fail
    clear q0 q1
    obtain ⟨hGe, hGi⟩ := OwI.is OG.out
    obtain ⟨hSe, hSi⟩ := OwI.is OS.out
    refine (eqSn_any _ _ _ _ I o n v b ag ah gn cg ch G _ HGL.out HN1.out hGi hSi).mono ?_; rintro e w10 ⟨rfl, hb⟩
    clear hGe hGi hSe hSi
    have A0 := hid (A0.out.later hb)
    have IA := hid (IA.out.later hb)
    have S3 := hid (S3.out.later hb)
    have OS := hid (own_later OS.out hb)
    have G5 := hid (G5.out.later hb)
    have OG := hid (own_later OG.out hb)
    have BE := hid (btr BE.out hb)
    clear hb
    have q0 := G5.out.cells
    go_wp2_with fail
    clear q0
    refine (markSn1 _ I o n v b ag gn cg G _ OG.out HGL.out HN1.out).mono ?_; rintro e w11 ⟨rfl, ho, hg⟩
    have n1 := N1.out; have n3 := HX.out; have n4 := N4.out; have n5 := N5.out
    have hfar : ∀ k, k < w4b.heap.size ∨ w5.heap.size ≤ k → some k ≠ Value.ownBlock (.slice ag gn cg) := fun k hk e => by have := HGl.out k e.symm; omega
    have A0 := hid (A0.out.grown hg (hfar _ (by omega)))
    have S3 := hid (S3.out.grown hg (hfar _ (by omega)))
    have G5 := hid (G5.out.grown hg (hfar _ (by omega)))
    have IA := hid (is_far15 IA.out hg (fun j hj => by have := HGl.out j hj; omega))
    have OS := hid (own_off15 OS.out hg (fun j hj e => by have h1 := HSl.out j hj; have h2 := HGl.out j e; omega))
    have OG := hid ho
    have BE := hid (BE.out.trans (below_grownR hg (fun j hj => by have := HGl.out j hj; omega) BE.out.size))
    clear ho hg hfar n1 n3 n4 n5
    have q0 := G5.out.cells
    go_wp2_with fail
    clear q0
    refine (heldSn1 _ I o n v b ag gn cg _ OG.out HN1.out).mono ?_; rintro e w12 ⟨rfl, hb⟩
    have A0 := hid (A0.out.later hb)
    have IA := hid (IA.out.later hb)
    have S3 := hid (S3.out.later hb)
    have OS := hid (own_later OS.out hb)
    have G5 := hid (G5.out.later hb)
    have OG := hid (own_later OG.out hb)
    have BE := hid (btr BE.out hb)
    clear hb
    have hqm : (((1 + gn : Nat) : Int) != ((1 + gn : Nat) : Int)) = false := by simp
    have q0 := A0.out.cells
    go_wp2_with fail
    clear q0
    refine (toSn_any 0 w.heap.size i o n v b ga gn gc G _ HGL.out HN1.out IA.out BE.out.size).mono ?_; rintro e w13 ⟨kz, rfl, ho, hb⟩
    have A0 := hid (A0.out.later hb)
    have IA := hid (IA.out.later hb)
    have S3 := hid (S3.out.later hb)
    have OS := hid (own_later OS.out hb)
    have G5 := hid (G5.out.later hb)
    have OG := hid (own_later OG.out hb)
    have BE := hid (btr BE.out hb)
    have RZ := hid (OwI.is ho).2
    clear ho hb
    go_wp2_with fail
    refine (CI.out _ _ kz _ RZ.out).mono ?_; rintro e w14 ⟨aq, cq, rfl, ho, hb⟩
    have A0 := hid (A0.out.later hb)
    have IA := hid (IA.out.later hb)
    have S3 := hid (S3.out.later hb)
    have OS := hid (own_later OS.out hb)
    have G5 := hid (G5.out.later hb)
    have OG := hid (own_later OG.out hb)
    have BE := hid (btr BE.out hb)
    obtain ⟨w14b, hw14b⟩ : ∃ W, w14.alloc (.cells #[.string I, .string o, .bool n, .bool v, .int .i64 b, .slice aq gn cq] 24) = W := ⟨_, rfl⟩
    have b14 : Below w14.heap.size w14 w14b := by subst hw14b; exact bpush (bre _) _
    have H14 := hid (show Sn w14b w14.heap.size 24 I o n v b (.slice aq gn cq) by subst hw14b; exact Sn.new w14 _ _ _ _ _ _ _)
    have A0 := hid (A0.out.later b14)
    have IA := hid (IA.out.later b14)
    have S3 := hid (S3.out.later b14)
    have OS := hid (own_later OS.out b14)
    have G5 := hid (G5.out.later b14)
    have OG := hid (own_later OG.out b14)
    have BE := hid (btr BE.out b14)
    have OH := hid (own_later ho b14)
    clear ho hb b14 RZ
    have q0 := H14.out.cells
    have q1 := S3.out.cells
    go_wp2_with fail
    clear q0 q1 hw14b
    obtain ⟨hGe, hGi⟩ := OwI.is OH.out
    obtain ⟨hSe, hSi⟩ := OwI.is OS.out
    refine (eqSn_any _ _ _ _ I o n v b aq ah gn cq ch G _ HGL.out HN1.out hGi hSi).mono ?_; rintro e w15 ⟨rfl, hb⟩
    clear hGe hGi hSe hSi
    have A0 := hid (A0.out.later hb)
    have IA := hid (IA.out.later hb)
    have S3 := hid (S3.out.later hb)
    have OS := hid (own_later OS.out hb)
    have G5 := hid (G5.out.later hb)
    have OG := hid (own_later OG.out hb)
    have BE := hid (btr BE.out hb)
    clear hb
    have q0 := G5.out.cells
    go_wp2_with fail
    clear q0
    refine (heldSn1 _ I o n v b ag gn cg _ OG.out HN1.out).mono ?_; rintro e w16 ⟨rfl, hb⟩
    have BE := hid (btr BE.out hb)
    go_wp2
    go_ret
    exact ⟨rfl, BE.out⟩
theorem lawFeed_frame (i o : ByteArray) (n v : Bool) (b : Int) (ga : Option Addr) (gn gc : Nat) (G : List Int) (t : ByteArray) (w : World) (hi1 : (i.size : Int) ≤ 9223372036854775807) (ho1 : (o.size : Int) ≤ 9223372036854775807) (hgl : G.length = gn) (hgn : (gn : Int) ≤ 9223372036854775807) (hs : Is 0 w.heap.size w ga G) (ht1 : (t.size : Int) ≤ 9223372036854775807) :
    Calls Try.prog 4 #[snv i o n v b (.slice ga gn gc), .string t] w fun e w' => e = .returned (.bool true) ∧ Below w.heap.size w w' := lawFeed_any i o n v b ga gn gc G t w hi1 ho1 ht1 hgl hgn hs
end Go.Proofs.Ytdhkehpihbdkcaa
namespace Go.Proofs.Ytdhkehpihbdkcaa
open Go.ChangeShapes Go.WideShapes Go.ChangeAt Go.RowKit Go.Joins
theorem cellsSn15 : Try.prog.cellsOf 29 = 6 := by kernel_rfl
theorem cellsIs15 : Try.prog.cellsOf 22 = 1 := by kernel_rfl
theorem cellsTx15 : Try.prog.cellsOf 9 = 1 := by kernel_rfl
theorem cellsIn15 : Try.prog.cellsOf 3 = 1 := by kernel_rfl
theorem cellsBl15 : Try.prog.cellsOf 4 = 1 := by kernel_rfl
section
variable {H : Type} {enc : TypeId × Value → H} {w : World} {spr : Nat → Bool} {held : Bool}
theorem addr_at15 {a : Addr} {u : Value} (h : w.cell? (a.add 0) = some u) : ∃ k o, a = ⟨k, o, none⟩ := by
  obtain ⟨k, o, s⟩ := a
  have hs : s = none := by simpa [Addr.add] using World.cell?_spot h
  exact ⟨k, o, by rw [hs]⟩
theorem trod_struct6n {P : Program} {base : Nat} {spare : Nat → Bool} {t : TypeId} {f0 f1 f2 f3 f4 f5 : Field} {fuel : Nat} {cs : List Value} {x : DataW H × List MemPlace} (ht : P.underlying t = some (.struct #[f0, f1, f2, f3, f4, f5])) (h : DataW.trod enc P w base spare held fuel t cs = some x) :
    ∃ y0 y1 y2 y3 y4 y5 n, cs.length = P.cellsOf t ∧ DataW.trod enc P w base spare held n f0.type ((cs.drop f0.offset).take (P.cellsOf f0.type)) = some y0 ∧
      DataW.trod enc P w base spare held n f1.type ((cs.drop f1.offset).take (P.cellsOf f1.type)) = some y1 ∧ DataW.trod enc P w base spare held n f2.type ((cs.drop f2.offset).take (P.cellsOf f2.type)) = some y2 ∧
      DataW.trod enc P w base spare held n f3.type ((cs.drop f3.offset).take (P.cellsOf f3.type)) = some y3 ∧ DataW.trod enc P w base spare held n f4.type ((cs.drop f4.offset).take (P.cellsOf f4.type)) = some y4 ∧
      DataW.trod enc P w base spare held n f5.type ((cs.drop f5.offset).take (P.cellsOf f5.type)) = some y5 := by
  obtain ⟨xs, n, _, rfl, hl, hlen, hf⟩ := DataW.trod_struct ht h
  match xs, hlen with
  | [y0, y1, y2, y3, y4, y5], _ => exact ⟨y0, y1, y2, y3, y4, y5, n, hl, by simpa using hf 0 f0 rfl, by simpa using hf 1 f1 rfl, by simpa using hf 2 f2 rfl, by simpa using hf 3 f3 rfl, by simpa using hf 4 f4 rfl, by simpa using hf 5 f5 rfl⟩
set_option maxRecDepth 100000 in
theorem trodIS15 {fuel : Nat} {cs : List Value} {y : DataW H × List MemPlace} (hf : DataW.trod enc Try.prog w 0 spr held fuel 22 cs = some y) :
    ∃ (ao : Option Addr) (n cap : Nat) (G : List Int), cs = [.slice ao n cap] ∧ G.length = n ∧ (n : Int) ≤ 9223372036854775807 ∧ Is 0 w.heap.size w ao G := by
  rcases Go.Deep.open_slice Try.underlying22 hf with ⟨hcs, _⟩ | ⟨a, n, cap, m, nf, D, Pl, hcs, _, hl, hm, hmm, _, hx⟩
  · exact ⟨none, 0, 0, [], hcs, rfl, by decide, Nat.le_refl _, fun i hi => absurd hi (by simp)⟩
  · have hlm : n ≤ m := by rw [hmm]; split <;> omega
    have hx' : ∀ i, i < n → ∃ z : Int, w.cell? (a.add i) = some (.int .i64 z) := by
      intro i hi
      obtain ⟨cs, h1, h2⟩ := hx i (by omega)
      rw [cellsIn15] at h1
      obtain ⟨_, hlen, hcell⟩ := World.cells?_some h1
      match cs, hlen with
      | [c0], _ =>
        obtain ⟨z, e0, _, _⟩ := DataW.trod_int Try.underlying3 h2
        simp only [List.cons.injEq, and_true] at e0
        subst e0
        have e := hcell 0 (by omega)
        exact ⟨z, by simpa [Go.Deep.add_add] using e⟩
    obtain ⟨r, hr⟩ := Go.Deep.choose_lt hx'
    refine ⟨some a, n, cap, (List.range n).map r, hcs, by simp, by unfold maxLen at hm; omega, Nat.le_refl _, ?_⟩
    intro i hi
    have hi' : i < n := by simpa using hi
    have e := hr i hi'
    obtain ⟨k, o, rfl⟩ := addr_at15 (a := a) (u := .int .i64 (r 0)) (hr 0 (by omega))
    have hb := World.block_lt_of_cell? w (Addr.add ⟨k, o, none⟩ i) e
    simp only [addr_add] at e hb
    refine ⟨k, o, rfl, Nat.zero_le _, hb, ?_⟩
    simp only [List.getElem_map, List.getElem_range]
    exact e
set_option maxRecDepth 100000 in
theorem openSn {base : Nat} {v : Value} {d : DataW H} {p : List MemPlace} (hv : Value.okWide Try.prog w .any base 29 v) (h : DataW.Trod enc Try.prog w 0 spr held 29 v d p) :
    ∃ (i o : ByteArray) (n r : Bool) (b : Int) (ga : Option Addr) (gn gc : Nat) (G : List Int), v = snv i o n r b (.slice ga gn gc) ∧ (i.size : Int) ≤ 9223372036854775807 ∧ (o.size : Int) ≤ 9223372036854775807 ∧ G.length = gn ∧ (gn : Int) ≤ 9223372036854775807 ∧ Is 0 w.heap.size w ga G := by
  obtain ⟨cs, rfl, hsz⟩ := okWide_struct Try.underlying29 hv
  obtain ⟨fuel, hf⟩ := h
  rw [cellsSn15] at hsz
  obtain ⟨l, rfl⟩ : ∃ l : List Value, cs = l.toArray := ⟨cs.toList, by simp⟩
  have hlen : l.length = 6 := by simpa using hsz
  match l, hlen with
  | [c0, c1, c2, c3, c4, c5], _ =>
    obtain ⟨y0, y1, y2, y3, y4, y5, n, hl, h0, h1, h2, h3, h4, h5⟩ := trod_struct6n Try.underlying29 hf
    have k0 : DataW.trod enc Try.prog w 0 spr held n 9 [c0] = some y0 := by simpa [cellsTx15, Value.cells] using h0
    have k1 : DataW.trod enc Try.prog w 0 spr held n 9 [c1] = some y1 := by simpa [cellsTx15, Value.cells] using h1
    have k2 : DataW.trod enc Try.prog w 0 spr held n 4 [c2] = some y2 := by simpa [cellsBl15, Value.cells] using h2
    have k3 : DataW.trod enc Try.prog w 0 spr held n 4 [c3] = some y3 := by simpa [cellsBl15, Value.cells] using h3
    have k4 : DataW.trod enc Try.prog w 0 spr held n 3 [c4] = some y4 := by simpa [cellsIn15, Value.cells] using h4
    have k5 : DataW.trod enc Try.prog w 0 spr held n 22 [c5] = some y5 := by simpa [cellsIs15, Value.cells] using h5
    obtain ⟨i, e0, _, t0⟩ := DataW.trod_string Try.underlying9 k0
    obtain ⟨o, e1, _, t1⟩ := DataW.trod_string Try.underlying9 k1
    obtain ⟨n', e2, _⟩ := DataW.trod_bool Try.underlying4 k2
    obtain ⟨r, e3, _⟩ := DataW.trod_bool Try.underlying4 k3
    obtain ⟨b, e4, _, _⟩ := DataW.trod_int Try.underlying3 k4
    obtain ⟨ga, gn, gc, G, e5, j1, j2, j3⟩ := trodIS15 k5
    simp only [List.cons.injEq, and_true] at e0 e1 e2 e3 e4 e5
    subst e0 e1 e2 e3 e4 e5
    exact ⟨i, o, n', r, b, ga, gn, gc, G, rfl, by unfold maxLen at t0; omega, by unfold maxLen at t1; omega, j1, j2, j3⟩
end
end Go.Proofs.Ytdhkehpihbdkcaa
