/- Zpk, Zpr, Zpa, Zpb, DecE, Zk. -/
import Derived.Test.YtkbiebacbebdnaaDoorItoa
import Derived.Test.YtkbiebacbebdnaaDoorS3
namespace Go.Proofs.YtkbiebacbebdnaaDoor
open Go.RowKit Go.Shelf
/-- A block that a reader of ranges writes: a list of ranges, a range, a flag. -/
def mine14 (o : Obj) : Prop := ∃ c e f, o = .cells c e f ∧ (e = 24 ∨ e = 4 ∨ e = 47)
theorem mine14_box {v : Value} {t : Nat} (h1 : t ≠ 24) (h2 : t ≠ 4) (h3 : t ≠ 47) : ¬ mine14 (.cells #[v] t (0, 0)) := by
  rintro ⟨c, e, f, h, he⟩
  injection h with _ h _
  subst h
  rcases he with h | h | h
  · exact h1 h
  · exact h2 h
  · exact h3 h
theorem mine14_other {o : Obj} (h : o.isCells = false) : ¬ mine14 o := by
  rintro ⟨c, e, f, rfl, _⟩
  cases h
structure KpO (n : Nat) (A B : World) : Prop where
  len : A.heap.size ≤ B.heap.size
  same : ∀ (k : Nat) (o : Obj), n ≤ k → A.heap[k]? = some o → ¬ mine14 o → B.heap[k]? = some o
structure ChO (n : Nat) (A B : World) : Prop where
  bel : Below n A B
  same : ∀ (k : Nat) (o : Obj), A.heap[k]? = some o → mine14 o → B.heap[k]? = some o
theorem KpO.trans {n : Nat} {A B C : World} (h : KpO n A B) (k : KpO n B C) : KpO n A C := ⟨Nat.le_trans h.len k.len, fun i o hi ho hm => k.same i o hi (h.same i o hi ho hm) hm⟩
theorem ChO.trans {n : Nat} {A B C : World} (h : ChO n A B) (k : ChO n B C) : ChO n A C := ⟨h.bel.trans k.bel, fun i o hi hm => k.same i o (h.same i o hi hm) hm⟩
theorem KpO.of_below {n : Nat} {A B : World} (h : Below A.heap.size A B) : KpO n A B := ⟨h.size, fun k _ _ ho _ => (h.block k (Array.getElem?_eq_some_iff.1 ho).1).trans ho⟩
theorem ChO.of_below {n : Nat} {A B : World} (h : Below A.heap.size A B) (hn : n ≤ A.heap.size) : ChO n A B := ⟨h.mono hn, fun k _ ho _ => (h.block k (Array.getElem?_eq_some_iff.1 ho).1).trans ho⟩
theorem ChO.of_grown {n : Nat} {A B : World} {row : Option Nat} (h : A.grownBy B row) (hn : n ≤ A.heap.size) (hr : ∀ (r : Nat), row = some r → n ≤ r ∧ ∃ o, A.heap[r]? = some o ∧ ¬ mine14 o) : ChO n A B := by
  refine ⟨⟨h.os, h.tape, h.output, h.size, fun k hk => ?_⟩, fun k o ho hm => ?_⟩
  · exact h.block k (Nat.lt_of_lt_of_le hk hn) (fun e => by have := (hr k e.symm).1; omega)
  · refine (h.block k (Array.getElem?_eq_some_iff.1 ho).1 (fun e => ?_)).trans ho
    obtain ⟨_, o', h2, h3⟩ := hr k e.symm
    rw [ho] at h2
    cases h2
    exact h3 hm
theorem KpO.text {n : Nat} {A B : World} (h : KpO n A B) : KpT n A B := ⟨h.len, fun k v t hk ht hb => h.same k _ hk hb (mine14_box (by rcases ht with rfl | rfl <;> decide) (by rcases ht with rfl | rfl <;> decide) (by rcases ht with rfl | rfl <;> decide))⟩
theorem ChO.of_box {n b : Nat} {A B : World} (h : ChB b A B) (hn : n ≤ A.heap.size) (hb : n ≤ b) : ChO n A B := by
  obtain ⟨v, hv⟩ := h.was
  exact ChO.of_grown h.grown hn (fun r e => by cases e; exact ⟨hb, _, hv, mine14_box (by decide) (by decide) (by decide)⟩)
set_option maxHeartbeats 1600000 in
set_option maxRecDepth 100000 in
theorem splitSeq_any (s : ByteArray) (w : World) :
    Calls Tryd.prog 46 #[.string s, .string ⟨#[44]⟩] w fun e w' => e = .returned (.func (.func 60) #[] #[.pointer (some ⟨w.heap.size + 1, 0, none⟩), .pointer (some ⟨w.heap.size, 0, none⟩), .pointer (some ⟨w.heap.size + 1 + 1, 0, none⟩)]) ∧ w' = ((w.alloc (.cells #[.string s] 9)).alloc (.cells #[.string ⟨#[44]⟩] 9)).alloc (.cells #[.int .i64 0] 3) := by
  have HL := hid (show ∀ W : World, Calls Tryd.prog 53 #[.string s, .string ⟨#[44]⟩, .int .i64 0] W fun e w' => e = .returned (.func (.func 60) #[] #[.pointer (some ⟨W.heap.size + 1, 0, none⟩), .pointer (some ⟨W.heap.size, 0, none⟩), .pointer (some ⟨W.heap.size + 1 + 1, 0, none⟩)]) ∧ w' = ((W.alloc (.cells #[.string s] 9)).alloc (.cells #[.string ⟨#[44]⟩] 9)).alloc (.cells #[.int .i64 0] 3) from fun W => by
    go_enter Tryd.func53, Tryd.ntmps53
    go_wp2
    go_ret
    exact ⟨rfl, rfl⟩)
  go_enter Tryd.func46, Tryd.ntmps46
  go_wp2_with fail
  refine (HL.out _).mono ?_; rintro e w1 ⟨rfl, rfl⟩
  go_wp2
  go_ret
  exact ⟨rfl, rfl⟩
theorem boxed_below14 {A B : World} {k t : Nat} {v : Value} (h : Boxed A k t v) (hb : Below A.heap.size A B) : Boxed B k t v := (hb.block k h.lt).trans h
theorem KpT.trans {n : Nat} {A B C : World} (h : KpT n A B) (k : KpT n B C) : KpT n A C := ⟨Nat.le_trans h.1 k.1, fun i v t hi ht hb => k.2 i v t hi ht (h.2 i v t hi ht hb)⟩
theorem KpT.put {n : Nat} (W : World) (l : Nat) {o : Obj} (o' : Obj) (h : W.heap[l]? = some o) (hc : o.isCells = false) : KpT n W (W.putObj l o') := by
  refine ⟨by simp, fun k v t _ _ hb => ?_⟩
  have hne : k ≠ l := by
    intro e
    subst e
    rw [show W.heap[k]? = _ from hb] at h
    cases h
    cases hc
  exact (World.putObj_heap_other hne).trans hb
theorem plc_len (c : UInt8) : ∀ (f : Nat) (L : List UInt8), ∀ x ∈ plc c f L, x.length ≤ L.length
  | 0, L, x, hx => by rw [plc, List.mem_singleton] at hx; rw [hx]; exact Nat.le_refl _
  | f + 1, L, x, hx => by
    rw [plc] at hx
    split at hx
    · rcases List.mem_cons.1 hx with rfl | hx
      · rw [List.length_take]; omega
      · have := plc_len c f _ x hx
        rw [List.length_drop] at this
        omega
    · rw [List.mem_singleton] at hx; rw [hx]; exact Nat.le_refl _
theorem KpO.keepsFrom {n m : Nat} {A B : World} (h : KpO n A B) (hn : n ≤ m) : KeepsFrom m A B := ⟨h.len, fun k o hk ho hc => h.same k o (by omega) ho (mine14_other hc)⟩
theorem roundIn_inR14 {F : Fence} {m : Nat} {P : Program} {l : Nat} {f : FuncId} {tmps : Array Value} {assign body : Go.Code} {w : World} {R : Ending → World → Prop} (l2 : Nat) (h : RoundIn F m P l f tmps assign body w R) : RoundIn (F.inRound l2) m P l f tmps assign body w R := h
def enG (x : G2 × Bool) : Array Value := #[.agg #[.int .i64 x.1.1, .int .i64 x.1.2], .bool x.2]
set_option maxRecDepth 100000 in
set_option maxHeartbeats 4000000 in
theorem ranges1_x (n l B5 : Nat) (h1 : 8 ≤ n) (s0 : ByteArray) (hL : s0.size ≤ 1048576) (W : World) (hB5 : B5 < W.heap.size) (c5 : W.cell? ⟨B5, 0, none⟩ = some (.string s0)) (P : List (List UInt8)) (hP : P = plc 44 s0.size s0.data.toList) :
    SeqX Fence.wide n Tryd.prog 45 #[.pointer (some ⟨B5, 0, none⟩)] enG (KpO W.heap.size) (ChO W.heap.size) (fun xs => xs = P.map rgv14) (fun pre => pre <+: P.map rgv14) l W := by
  intro J Jx hJ hJx hY h0
  refine callsIn_of_wp_marks Tryd.func45 rfl trivial ?_ rfl
  obtain ⟨Wa, hWa⟩ : ∃ Wa, W.alloc (.cells #[.func (.yield l) #[] #[]] 77) = Wa := ⟨_, rfl⟩
  have c5a : Wa.cell? ⟨B5, 0, none⟩ = some (.string s0) := by rw [← hWa]; exact ((bpush (bre W) _).cell (p := ⟨B5, 0, none⟩) hB5).trans c5
  have HY := hid hY
  have HJ := hid hJ
  have HJX := hid hJx
  have HP := hid hP
  have HN := hid h1
  clear h1 hY hJ hJx hP
  simp only [Tryd.ntmps45, List.size_toArray, List.length_cons, List.length_nil, Nat.reduceAdd, Nat.reduceSub, Array.replicate_succ, Array.replicate_zero, List.push_toArray, List.append_toArray, List.nil_append, List.cons_append]
  have yb0 : Boxed Wa W.heap.size 77 (.func (.yield l) #[] #[]) := by rw [← hWa]; exact Boxed.new W _ _
  have hsa : Wa.heap.size = W.heap.size + 1 := by rw [← hWa]; simp
  have BA : Below W.heap.size W Wa := by rw [← hWa]; exact bpush (bre W) _
  have HYB := hid yb0
  have HSA := hid hsa
  have HBA := hid BA
  clear yb0 hsa BA c5
  gi_wp2
  refine ⟨trivial, (fun h => by cases h), (callsIn_wide.2 (splitSeq_any s0 Wa)).mono ?_⟩
  rintro e w1 ⟨rfl, hw1⟩
  clear hWa c5a
  obtain ⟨k, hk⟩ : ∃ k, Wa.heap.size = k := ⟨_, rfl⟩
  have hk2 : k = W.heap.size + 1 := by rw [← hk]; exact HSA.out
  have hs1 : w1.heap.size = k + 3 := by rw [hw1]; simp; omega
  have bs : Boxed w1 k 9 (.string s0) := by rw [hw1, ← hk]; exact ((Boxed.new Wa 9 (.string s0)).alloc _).alloc _
  have bp : Boxed w1 (k + 1) 9 (.string ⟨#[44]⟩) := by
    have h := (Boxed.new (Wa.alloc (.cells #[.string s0] 9)) 9 (.string ⟨#[44]⟩)).alloc (.cells #[.int .i64 0] 3)
    rw [World.size_alloc, hk] at h
    rw [hw1]; exact h
  have bv : Boxed w1 (k + 1 + 1) 3 (.int .i64 0) := by
    have h := Boxed.new ((Wa.alloc (.cells #[.string s0] 9)).alloc (.cells #[.string ⟨#[44]⟩] 9)) 3 (.int .i64 0)
    rw [World.size_alloc, World.size_alloc, hk] at h
    rw [hw1]; exact h
  have yb : Boxed w1 W.heap.size 77 (.func (.yield l) #[] #[]) := by rw [hw1]; exact ((HYB.out.alloc _).alloc _).alloc _
  have BW : Below W.heap.size W w1 := by
    rw [hw1]
    exact HBA.out.trans ((bpush (bpush (bpush (bre Wa) _) _) _).mono HBA.out.size)
  have hJ1 := HJ.out [] W w1 h0 (ChO.of_below BW (Nat.le_refl _))
  rw [hk]
  subst hk2
  have HBS := hid (And.intro bs (And.intro bp bv))
  have HYB1 := hid yb
  have HBW := hid BW
  have HS1 := hid hs1
  clear hw1 bs bp bv yb BW hs1 hk
  gi_wp2
  refine wpIn_rangeFunc_x rfl (Nat.le_trans (by decide) HN.out) (gf := 60) (lb := #[.pointer (some ⟨W.heap.size + 1 + 1, 0, none⟩), .pointer (some ⟨W.heap.size + 1, 0, none⟩), .pointer (some ⟨W.heap.size + 1 + 1 + 1, 0, none⟩)]) rfl trivial (enters_of Tryd.func60 (by kernel_rfl) rfl)
    (encs := fun p : List UInt8 => #[.string (ba p)]) (Kp := KpT W.heap.size) (Ch := ChB (W.heap.size + 1)) (S := fun xs => xs = P) (Sp := fun pre => pre <+: P)
    (fun W1 hb hsz => split1_x (n - 1) (w1.heap.size + 1) (W.heap.size + 1 + 1) (W.heap.size + 1) (W.heap.size + 1 + 1 + 1) W.heap.size s0 hL W1 (boxed_below14 HBS.out.2.1 hb) (boxed_below14 HBS.out.1 hb) (boxed_below14 HBS.out.2.2 hb) (by omega) (by omega) (by omega) (by omega) (by omega) P HP.out)
    (fun h k => h.trans k) (fun W2 o o' ho hc _ => KpT.put W2 _ o' ho hc)
    (fun A B k o hc hk ho _ => (hc.grown.block k (Array.getElem?_eq_some_iff.1 ho).1 (fun e => by injection e with e; have := HS1.out; omega)).trans ho)
    (fun _ => rfl)
    (fun pre W2 => J (pre.map rgv14) W2 ∧ W.heap.size + 4 ≤ W2.heap.size ∧ Boxed W2 W.heap.size 77 (.func (.yield l) #[] #[]))
    (fun c pre W2 => c = .ret ∧ Jx (pre.map rgv14) W2 ∧ W.heap.size + 4 ≤ W2.heap.size)
    ?hI ?hIx ?hIc ?hIxc ⟨hJ1, by rw [HS1.out]; omega, HYB1.out⟩
    (fun p a' _ => a' = { tmps := #[.func (.yield l) #[] #[], .pointer (some ⟨B5, 0, none⟩), .pointer (some ⟨W.heap.size, 0, none⟩), .string (ba p), .string s0, .func (.func 60) #[] #[.pointer (some ⟨W.heap.size + 1 + 1, 0, none⟩), .pointer (some ⟨W.heap.size + 1, 0, none⟩), .pointer (some ⟨W.heap.size + 1 + 1 + 1, 0, none⟩)], .string (ba p), undef, undef, undef, undef, undef, undef, undef], defers := [] })
    (fun _ _ _ _ _ _ hs _ _ => hs) ?assign ?body ?done ?stop
  case hI =>
    rintro pre A B row ⟨hj, hsz, hy⟩ hg hr
    refine ⟨HJ.out _ A B hj (ChO.of_grown hg (by omega) (fun r e => ?_)), Nat.le_trans hsz hg.size, boxed_own _ _ (fun (_ : Unit) => _) () A B row hy hg (fun r e => (hr r e).2)⟩
    obtain ⟨q1, o, q2, q3⟩ := hr r e
    exact ⟨by have := HS1.out; omega, o, q2, mine14_other q3⟩
  case hIx =>
    rintro c pre A B row ⟨hc, hj, hsz⟩ hg hr
    refine ⟨hc, HJX.out _ A B hj (ChO.of_grown hg (by omega) (fun r e => ?_)), Nat.le_trans hsz hg.size⟩
    obtain ⟨q1, o, q2, q3⟩ := hr r e
    exact ⟨by have := HS1.out; omega, o, q2, mine14_other q3⟩
  case hIc =>
    rintro pre A B ⟨hj, hsz, hy⟩ hc
    exact ⟨HJ.out _ A B hj (ChO.of_box hc (by omega) (by omega)), Nat.le_trans hsz hc.grown.size, hy.kept hc.grown (fun e => by injection e with e; omega)⟩
  case hIxc =>
    rintro c pre A B ⟨hcc, hj, hsz⟩ hc
    exact ⟨hcc, HJX.out _ A B hj (ChO.of_box hc (by omega) (by omega)), Nat.le_trans hsz hc.grown.size⟩
  case assign =>
    intro l2 pre x W2 K hi hK
    have hsem := @Oper.semAt_some
    gi_wp2
    exact hK _ _ (KeepsFrom.refl _ _) ⟨Nat.le_refl _, fun _ _ _ _ _ h => h⟩ hi rfl
  case body =>
    rintro l2 pre x a' W2 hl2 _ ⟨hj, hsz, hy⟩ rfl hpre
    have hxm : (ba x).size ≤ 1048576 := by
      have h1 : x ∈ P := hpre.subset (by simp)
      rw [HP.out] at h1
      have h2 := plc_len 44 _ _ x h1
      rw [dtl] at h2
      show x.toArray.size ≤ _
      rw [List.size_toArray]
      omega
    have HRS := hid (fun w => rangeSaid_any (ba x) w hxm)
    obtain ⟨⟨⟨p, q⟩, ok⟩, hr⟩ : ∃ r, rgv14 x = r := ⟨_, rfl⟩
    rw [show (ba x).data.toList = x from rfl, hr] at HRS
    have HPR := hid hpre
    have HRR := hid hr
    have cy := hy.cell
    have HYB2 := hid hy
    have HJ2 := hid hj
    have HYY : Hid (∀ w3, Below W2.heap.size W2 w3 → YieldAt Fence.wide (n - 1) Tryd.prog l #[.agg #[.int .i64 p, .int .i64 q], .bool ok] w3 fun e W3 => ∃ b, e = .returned (.bool b) ∧ ((b = true ∧ J ((pre ++ [x]).map rgv14) W3 ∧ KpO W.heap.size W2 W3) ∨ (b = false ∧ Jx ((pre ++ [x]).map rgv14) W3 ∧ KpO W.heap.size W2 W3))) := hid (fun w3 hb => by
      obtain ⟨fn, tmps, assign, body, hyy, hR⟩ := HY.out (pre.map rgv14) (rgv14 x) w3 (HJ.out _ _ _ HJ2.out (ChO.of_below hb (by omega))) (by have := HPR.out.map rgv14; simpa using this)
      refine ⟨fn, tmps, assign, body, by rw [HRR.out] at hyy; exact hyy, hR.mono ?_⟩
      rintro e W3 (⟨h1, h2, h3⟩ | ⟨h1, h2, h3⟩)
      · exact ⟨true, h1, Or.inl ⟨rfl, by simpa using h2, (KpO.of_below hb).trans h3⟩⟩
      · exact ⟨false, h1, Or.inr ⟨rfl, by simpa using h2, (KpO.of_below hb).trans h3⟩⟩)
    have hsem := @Oper.semAt_some
    have hmx : Tryd.prog.follows .mixedOrders = true := by kernel_rfl
    have hd : 1 ≤ n - 1 - 1 := by have := HN.out; omega
    clear hr hpre hy hj hxm
    gi_wp2
    gi_region_with_o (first
      | (refine ⟨trivial, ?_⟩; gi_at_call 47; refine (CallsIn.inRound l2 (callsIn_wide.2 (HRS.out _))).mono ?_; rintro e w3 ⟨rfl, hb3⟩; have HB3 := hid (btr (bdr (bre W2)) hb3); have cy3 := (boxed_below14 HYB2.out HB3.out).cell; obtain ⟨fn, tmps, assign, body, hyy, hR⟩ := HYY.out w3 HB3.out; have HR := hid hR; clear hR hb3)
      | (refine (roundIn_inR14 l2 (RoundIn.any14 rfl HR.out)).mono ?_; rintro e W3 ⟨b, rfl, hb⟩; have HB4 := hid hb; clear hb))
    all_goals
      rcases HB4.out with ⟨rfl, h2, h3⟩ | ⟨rfl, h2, h3⟩
      · have H2 := hid h2
        have H3 := hid h3
        clear h2 h3
        gi_wp2
        exact ⟨H3.out.keepsFrom (by have := HS1.out; omega), H3.out.text, H2.out, Nat.le_trans hsz H3.out.len, H3.out.same _ _ (Nat.le_refl _) HYB2.out (mine14_box (by decide) (by decide) (by decide))⟩
      · have H2 := hid h2
        have H3 := hid h3
        clear h2 h3
        gi_wp2
        exact ⟨H3.out.keepsFrom (by have := HS1.out; omega), H3.out.text, rfl, H2.out, Nat.le_trans hsz H3.out.len⟩
  case done =>
    rintro D xs W2 hD rfl ⟨hj, hsz, hy⟩ hK
    have HJ2 := hid hj
    clear hj hy
    gi_wp2
    refine ⟨by simp, .inl ⟨_, _, rfl, run_takeDeferred hK, ?_⟩⟩
    have hch : ChO W.heap.size W2 (W2.putObj D (.deferred none)) := ChO.of_grown (grownBy_putObj' W2 D _) (by omega) (fun r e => by injection e with e; subst e; exact ⟨by have := HS1.out; omega, _, hK, mine14_other rfl⟩)
    exact ⟨_, results_none rfl _ _ _, ⟨_, rfl⟩, .inl ⟨_, rfl, HJ.out _ _ _ HJ2.out hch⟩⟩
  case stop =>
    rintro D c pre W2 hD hpre ⟨rfl, hj, hsz⟩ hK
    have HJ2 := hid hj
    clear hj
    gi_wp2
    refine ⟨by simp, .inl ⟨_, _, rfl, run_takeDeferred hK, ?_⟩⟩
    have hch : ChO W.heap.size W2 (W2.putObj D (.deferred none)) := ChO.of_grown (grownBy_putObj' W2 D _) (by omega) (fun r e => by injection e with e; subst e; exact ⟨by have := HS1.out; omega, _, hK, mine14_other rfl⟩)
    exact ⟨_, results_none rfl _ _ _, ⟨_, rfl⟩, .inr ⟨_, hpre.map rgv14, HJX.out _ _ _ HJ2.out hch⟩⟩
theorem OwG.of_same {A C : World} {B : Nat} {v : Value} {l : List G2} (h : OwG A B v l) (hs : ∀ (g : Nat) (o : Obj), A.heap[g]? = some o → mine14 o → C.heap[g]? = some o) : OwG C B v l := by
  refine ⟨h.1, ?_⟩
  rcases h.2 with h2 | ⟨g, cap, cur, h1, h2, h3, h4⟩
  · exact .inl h2
  · exact .inr ⟨g, cap, cur, h1, h2, hs g _ h3 ⟨cur, 47, (0, 0), rfl, .inr (.inr rfl)⟩, h4⟩
theorem OwG.mine {A : World} {B : Nat} {v : Value} {l : List G2} (h : OwG A B v l) {r : Nat} (hr : v.ownBlock = some r) : ∃ o, A.heap[r]? = some o ∧ mine14 o := by
  rcases h.2 with ⟨rfl, _⟩ | ⟨g, cap, cur, rfl, h2, h3, h4⟩
  · simp [Value.ownBlock] at hr
  · obtain rfl : g = r := by simpa [Value.ownBlock] using hr
    exact ⟨_, h3, cur, 47, (0, 0), rfl, .inr (.inr rfl)⟩
theorem OwG.nil14 (A : World) (B : Nat) : OwG A B (.slice none 0 0) [] := ⟨by simp [gcs], .inl ⟨rfl, rfl⟩⟩
theorem KpO.of_grown {n : Nat} {A B : World} {row : Option Nat} (h : A.grownBy B row) (hr : ∀ (r : Nat), row = some r → r < n ∨ ∃ o, A.heap[r]? = some o ∧ mine14 o) : KpO n A B := by
  refine ⟨h.size, fun k o hk ho hm => (h.block k (Array.getElem?_eq_some_iff.1 ho).1 (fun e => ?_)).trans ho⟩
  rcases hr k e.symm with h1 | ⟨o', h1, h2⟩
  · omega
  · rw [ho] at h1
    cases h1
    exact hm h2
/-- What ReadSet's own blocks hold between two rounds. -/
structure RdI (k : Nat) (w : World) (pre : List (G2 × Bool)) (W : World) : Prop where
  ok : ∀ x ∈ pre, x.2 = true
  few : pre.length ≤ 8
  list : ∃ v, Boxed W (k + 1 + 1) 24 v ∧ OwG W k v (pre.map (fun x => x.1))
  res : Boxed W k 24 (.slice none 0 0)
  flag : Boxed W (k + 1) 4 (.bool false)
  bel : Below k w W
  len : k + 4 ≤ W.heap.size
structure RdX (k : Nat) (w : World) (pre : List (G2 × Bool)) (W : World) : Prop where
  bad : (∃ x ∈ pre, x.2 = false) ∨ 8 < pre.length
  res : Boxed W k 24 (.slice none 0 0)
  flag : Boxed W (k + 1) 4 (.bool false)
  bel : Below k w W
  len : k + 4 ≤ W.heap.size
theorem RdI.same {k : Nat} {w A B : World} {pre : List (G2 × Bool)} (h : RdI k w pre A) (hb : Below k A B) (hs : ∀ (g : Nat) (o : Obj), A.heap[g]? = some o → mine14 o → B.heap[g]? = some o) : RdI k w pre B := by
  obtain ⟨v, h1, h2⟩ := h.list
  exact ⟨h.ok, h.few, ⟨v, hs _ _ h1 ⟨_, _, _, rfl, .inl rfl⟩, h2.of_same hs⟩, hs _ _ h.res ⟨_, _, _, rfl, .inl rfl⟩, hs _ _ h.flag ⟨_, _, _, rfl, .inr (.inl rfl)⟩, h.bel.trans hb, Nat.le_trans h.len hb.size⟩
theorem RdX.same {k : Nat} {w A B : World} {pre : List (G2 × Bool)} (h : RdX k w pre A) (hb : Below k A B) (hs : ∀ (g : Nat) (o : Obj), A.heap[g]? = some o → mine14 o → B.heap[g]? = some o) : RdX k w pre B :=
  ⟨h.bad, hs _ _ h.res ⟨_, _, _, rfl, .inl rfl⟩, hs _ _ h.flag ⟨_, _, _, rfl, .inr (.inl rfl)⟩, h.bel.trans hb, Nat.le_trans h.len hb.size⟩
/-- A turn of a block that is no cells, from B on. -/
theorem grown_same {A B : World} {n k : Nat} {row : Option Nat} (hg : A.grownBy B row) (hr : ∀ (r : Nat), row = some r → n ≤ r ∧ ∃ o : Obj, A.heap[r]? = some o ∧ o.isCells = false) (hk : k ≤ n) (hA : k ≤ A.heap.size) :
    Below k A B ∧ ∀ (g : Nat) (o : Obj), A.heap[g]? = some o → mine14 o → B.heap[g]? = some o := by
  have h : ChO k A B := ChO.of_grown hg hA (fun r e => by obtain ⟨q1, o, q2, q3⟩ := hr r e; exact ⟨by omega, o, q2, mine14_other q3⟩)
  exact ⟨h.bel, h.same⟩
theorem RdI.later {k : Nat} {w A B : World} {pre : List (G2 × Bool)} (h : RdI k w pre A) (hb : Below A.heap.size A B) : RdI k w pre B :=
  h.same (hb.mono (by have := h.len; omega)) (fun g o ho _ => (hb.block g (Array.getElem?_eq_some_iff.1 ho).1).trans ho)
theorem wpListIn_append_gr {F : Fence} {n : Nat} (w : World) {ops : Array Oper} {rest : List Oper} {o : Oper} {a : Act} {Q : Exit → Act → World → Prop} (hgd : o.guard = none) (s x : Operand)
    (ho : o.op = .call { callee := .builtin .append, args := #[s, x], argTypes := #[24, 24] })
    (base : Nat) (v : Value) (l : List G2) (hs : a.eval s = v) (hown : OwG w base v l) (p q : Int)
    (hx : a.eval x = .slice (some ⟨w.heap.size, 0, none⟩) 1 1) (hlen : l.length ≤ 1048576) (hbase : base ≤ w.heap.size)
    (h : ∀ v' w', OwG w' base v' (l ++ [(p, q)]) → (w.alloc (.cells #[.int .i64 p, .int .i64 q] 47)).grownBy w' v.ownBlock → wpListIn F n Tryd.prog ops Q rest (a.put o.dst v') w') :
    wpListIn F n Tryd.prog ops Q (o :: rest) a (w.alloc (.cells #[.int .i64 p, .int .i64 q] 47)) := by
  obtain ⟨i0, hi, hz0, hz1, hz2⟩ := info_parts3 info_gr
  refine wpListIn_append_own _ hgd s x 24 ho base 47 i0 _ 2 16 Tryd.underlying24 hi hz0 hz1 hz2 rfl (by decide) v _ _ hs (hown.alloc _) ⟨w.heap.size, 0, none⟩ 1 1 (gcs [(p, q)]) hx rfl (cells_new14 w (p, q) 47) (gcs_one _) (by unfold maxLen; omega) (by omega) (by simp; omega) ?_
  intro v' w' hown' hg _
  have h1 : OwG w' base v' (l ++ [(p, q)]) := by unfold OwG; rw [gcs_app]; simpa using hown'
  exact h v' w' h1 hg
set_option maxRecDepth 100000 in
theorem rangesSaid_any (s : ByteArray) (w : World) :
    Calls Tryd.prog 29 #[.string s] w fun e w' => e = .returned (.func (.func 45) #[] #[.pointer (some ⟨w.heap.size, 0, none⟩)]) ∧ w' = w.alloc (.cells #[.string s] 9) := by
  go_enter Tryd.func29, Tryd.ntmps29
  go_wp2
  go_ret
  exact ⟨rfl, rfl⟩
set_option maxRecDepth 100000 in
set_option maxHeartbeats 4000000 in
theorem implReadSet_any (s : ByteArray) (w : World) (hs : s.size ≤ 1048576) :
    Calls Tryd.prog 8 #[.string s] w fun e w' => Rs14 s w e w' := by
  refine (callsIn_wide (n := 20)).1 ?_
  refine callsIn_of_wp_marks Tryd.func8 rfl trivial ?_ rfl
  obtain ⟨P, hP⟩ : ∃ P, plc 44 s.size s.data.toList = P := ⟨_, rfl⟩
  have HRS : Hid (rset s = rdl [] (P.map rgv14)) := hid (by rw [rset_parts, dtl, hP])
  obtain ⟨Wa, hWa⟩ : ∃ Wa, ((w.alloc (.cells #[.slice none 0 0] 24)).alloc (.cells #[.bool false] 4)).alloc (.cells #[.slice none 0 0] 24) = Wa := ⟨_, rfl⟩
  have HP := hid hP
  clear hP
  simp only [Tryd.ntmps8, List.size_toArray, List.length_cons, List.length_nil, Nat.reduceAdd, Nat.reduceSub, Array.replicate_succ, Array.replicate_zero, List.push_toArray, List.append_toArray, List.nil_append, List.cons_append]
  gi_wp2
  refine ⟨trivial, (callsIn_wide.2 (rangesSaid_any s _)).mono ?_⟩
  rintro e w1 ⟨rfl, hw1⟩
  have hsa : Wa.heap.size = w.heap.size + 3 := by rw [← hWa]; simp
  have BA : Below w.heap.size w Wa := by rw [← hWa]; exact bpush (bpush (bpush (bre w) _) _) _
  have r0 : Boxed Wa w.heap.size 24 (.slice none 0 0) := by rw [← hWa]; exact ((Boxed.new w _ _).alloc _).alloc _
  have f0 : Boxed Wa (w.heap.size + 1) 4 (.bool false) := by
    have h := (Boxed.new (w.alloc (.cells #[.slice none 0 0] 24)) 4 (.bool false)).alloc (.cells #[.slice none 0 0] 24)
    rw [World.size_alloc] at h
    rw [← hWa]; exact h
  have l0 : Boxed Wa (w.heap.size + 1 + 1) 24 (.slice none 0 0) := by
    have h := Boxed.new ((w.alloc (.cells #[.slice none 0 0] 24)).alloc (.cells #[.bool false] 4)) 24 (.slice none 0 0)
    rw [World.size_alloc, World.size_alloc] at h
    rw [← hWa]; exact h
  have s0 : Boxed w1 (w.heap.size + 3) 9 (.string s) := by rw [hw1, ← hsa]; exact Boxed.new Wa 9 _
  have hs1 : w1.heap.size = w.heap.size + 4 := by rw [hw1]; simp; omega
  have B1 : Below w.heap.size w w1 := by rw [hw1]; exact bpush BA _
  have I0 : RdI w.heap.size w [] w1 := by
    refine ⟨(fun x hx => absurd hx (by simp)), (by simp), ⟨_, ?_, OwG.nil14 _ _⟩, ?_, ?_, B1, (by omega)⟩
    · rw [hw1]; exact l0.alloc _
    · rw [hw1]; exact r0.alloc _
    · rw [hw1]; exact f0.alloc _
  rw [hsa]
  have HI0 := hid I0
  have HS0 := hid s0
  have HS1 := hid hs1
  clear hw1 hWa hsa BA r0 f0 l0 s0 B1 I0 hs1
  gi_wp2
  refine wpIn_rangeFunc_x rfl (by decide) (gf := 45) (lb := #[.pointer (some ⟨w.heap.size + 3, 0, none⟩)]) rfl trivial (enters_of Tryd.func45 (by kernel_rfl) rfl)
    (encs := enG) (Kp := KpO (w.heap.size + 6)) (Ch := ChO (w.heap.size + 6)) (S := fun xs => xs = P.map rgv14) (Sp := fun pre => pre <+: P.map rgv14)
    (fun W1 hb hsz => by
      have e6 : W1.heap.size = w.heap.size + 6 := by rw [hsz, HS1.out]
      have h := ranges1_x 19 (w1.heap.size + 1) (w.heap.size + 3) (by decide) s hs W1 (by omega) ((hb.cell (p := ⟨w.heap.size + 3, 0, none⟩) HS0.out.lt).trans HS0.out.cell) P HP.out.symm
      rw [e6] at h
      exact h)
    (fun h k => h.trans k)
    (fun W2 o o' ho hc _ => KpO.of_grown (grownBy_putObj' W2 _ o') (fun r e => .inl (by injection e with e; have := HS1.out; omega)))
    (fun A B k o hc hk ho _ => (hc.bel.block k (by have := HS1.out; omega)).trans ho)
    (fun _ => rfl)
    (RdI w.heap.size w) (fun c pre W2 => c = .ret ∧ RdX w.heap.size w pre W2)
    ?hI ?hIx ?hIc ?hIxc HI0.out
    (fun x a' W2 => ∃ Bx, w.heap.size + 4 ≤ Bx ∧ Gq W2 Bx 47 x.1.1 x.1.2 ∧ a' = { tmps := #[.string s, undef, .pointer (some ⟨w.heap.size, 0, none⟩), .pointer (some ⟨w.heap.size + 1, 0, none⟩), .pointer (some ⟨w.heap.size + 1 + 1, 0, none⟩), .pointer (some ⟨Bx, 0, none⟩), .bool x.2, .string s, .func (.func 45) #[] #[.pointer (some ⟨w.heap.size + 3, 0, none⟩)], .agg #[.int .i64 x.1.1, .int .i64 x.1.2], .bool x.2, undef, undef, undef, undef, undef, undef, undef, undef, undef, undef, undef, undef], defers := [] })
    ?hAx ?assign ?body ?done ?stop
  case hI =>
    intro pre A B row hi hg hr
    have h := grown_same hg hr (show w.heap.size ≤ w1.heap.size by have := HS1.out; omega) (by have := hi.len; omega)
    exact hi.same h.1 h.2
  case hIx =>
    intro c pre A B row hi hg hr
    have h := grown_same hg hr (show w.heap.size ≤ w1.heap.size by have := HS1.out; omega) (by have := hi.2.len; omega)
    exact ⟨hi.1, hi.2.same h.1 h.2⟩
  case hIc =>
    intro pre A B hi hc
    exact hi.same (hc.bel.mono (by omega)) hc.same
  case hIxc =>
    intro c pre A B hi hc
    exact ⟨hi.1, hi.2.same (hc.bel.mono (by omega)) hc.same⟩
  case hAx =>
    rintro x a' _ A B row ⟨Bx, q1, q2, q3⟩ hg hr
    refine ⟨Bx, q1, (hg.block Bx q2.lt (fun e => ?_)).trans q2, q3⟩
    obtain ⟨_, o, h1, h2⟩ := hr Bx e.symm
    rw [show A.heap[Bx]? = _ from q2] at h1
    cases h1
    cases h2
  case assign =>
    rintro l2 pre ⟨⟨p, q⟩, ok⟩ W2 K hi hK
    have hsem := @Oper.semAt_some
    unfold enG
    dsimp only
    gi_wp2
    exact hK _ _ ((KeepsOthers.alloc _ _).from _) (KpO.of_below (bpush (bre W2) _)) (hi.later (bpush (bre W2) _)) ⟨W2.heap.size, hi.len, Gq.new W2 _ p q, rfl⟩
  case body =>
    rintro l2 pre ⟨⟨p, q⟩, ok⟩ a' W2 hl2 _ hi ⟨Bx, hBx, hG, rfl⟩ hpre
    have hsem := @Oper.semAt_some
    have HI := hid hi
    have HG := hid hG
    have cR := hi.res.cell
    have fR := hi.res.frozen
    have cF := hi.flag.cell
    have fF := hi.flag.frozen
    have HX : Hid (∀ Y, ((∃ x ∈ pre ++ [((p, q), ok)], x.2 = false) ∨ 8 < (pre ++ [((p, q), ok)]).length) → Y = (W2.setCell ⟨w.heap.size, 0, none⟩ (.slice none 0 0)).setCell ⟨w.heap.size + 1, 0, none⟩ (.bool false) → KeepsFrom w1.heap.size W2 Y ∧ KpO (w.heap.size + 6) W2 Y ∧ Go.Code.ret = Go.Code.ret ∧ RdX w.heap.size w (pre ++ [((p, q), ok)]) Y) := hid (by
      rintro Y hbad rfl
      have g1 := grownBy_setCell' W2 w.heap.size (.slice none 0 0)
      have g2 := grownBy_setCell' (W2.setCell ⟨w.heap.size, 0, none⟩ (.slice none 0 0)) (w.heap.size + 1) (.bool false)
      refine ⟨((KeepsOthers.setCell _ _ _).trans (KeepsOthers.setCell _ _ _)).from _, (KpO.of_grown g1 (fun r e => .inl (by injection e with e; omega))).trans (KpO.of_grown g2 (fun r e => .inl (by injection e with e; omega))), rfl, hbad, ?_, ?_, ?_, ?_⟩
      · exact (HI.out.res.set _).other (by omega) _
      · exact (HI.out.flag.other (by omega) _).set _
      · exact bsk (bsk HI.out.bel (Nat.le_refl _) 0 _) (by omega) 0 _
      · exact Nat.le_trans HI.out.len (Nat.le_trans g1.size g2.size))
    cases ok
    · clear hG hi
      gi_wp2
      obtain ⟨x1, x2, _, x4⟩ := HX.out _ (.inl ⟨((p, q), false), by simp, rfl⟩) rfl
      exact ⟨x1, x2, rfl, x4⟩
    · obtain ⟨v, hv, ho⟩ := hi.list
      obtain ⟨a, c, hv2⟩ := ho.shape
      rw [List.length_map] at hv2
      subst hv2
      have cL := hv.cell
      have fL := hv.frozen
      have HV := hid hv
      have HO := hid ho
      clear hv ho
      by_cases h8 : pre.length = 8
      · have e8 : ((pre.length : Int) == 8) = true := by rw [h8]; rfl
        clear hG hi
        gi_wp2
        obtain ⟨x1, x2, _, x4⟩ := HX.out _ (.inr (by simp [h8])) rfl
        exact ⟨x1, x2, rfl, x4⟩
      · have e8 : ((pre.length : Int) == 8) = false := by rw [beq_eq_false_iff_ne]; omega
        have cx := hG.cells
        clear hG hi
        have h5 : (pre.map (fun x : G2 × Bool => x.1)).length = pre.length := List.length_map ..
        have hle8 : (pre.map (fun x : G2 × Bool => x.1)).length ≤ 1048576 := by rw [h5]; have := HI.out.few; omega
        have hkl : w.heap.size ≤ W2.heap.size := by have := HI.out.len; omega
        have HLE := hid (And.intro hle8 (And.intro hkl h5))
        clear h5 hle8 hkl
        gi_wp2_with (gi_at_builtin; refine wpListIn_append_gr W2 rfl (.tmp 18) (.tmp 20) rfl w.heap.size _ _ (by rfl) HO.out p q rfl HLE.out.1 HLE.out.2.1 ?_; intro v2 w2 ho2 hg2; (obtain ⟨a2, c2, hv3⟩ := OwG.shape ho2); subst hv3; have HO2 := hid ho2; have HG2 := hid hg2; have bx2 := hid ((HV.out.alloc (.cells #[.int .i64 p, .int .i64 q] 47)).kept hg2 (HV.out.not_row (by decide) HO.out)); have cL2 := bx2.out.cell; have fL2 := bx2.out.frozen; clear ho2 hg2)
        obtain ⟨e1, e2, e3, e4, e5⟩ := HV.out.appended (by decide) HO.out HLE.out.2.1 (by omega) HO2.out HG2.out
        have hl9 : (pre ++ [((p, q), true)]).map (fun x : G2 × Bool => x.1) = pre.map (fun x => x.1) ++ [(p, q)] := by simp
        have hll : (pre.map (fun x : G2 × Bool => x.1) ++ [(p, q)]).length = pre.length + 1 := by simp
        rw [hll] at e2 e3 e4 e5 HO2
        have hbx2 := HG2.out
        have g3 := grownBy_setCell' w2 (w.heap.size + 1 + 1) (.slice a2 (pre.length + 1) c2)
        have oA : OwG (W2.alloc (.cells #[.int .i64 p, .int .i64 q] 47)) w.heap.size (.slice a pre.length c) (pre.map (fun x => x.1)) := HO.out.alloc _
        refine ⟨e4.from _, ((KpO.of_below (bpush (bre W2) _)).trans (KpO.of_grown HG2.out (fun r e => .inr (oA.mine e)))).trans (KpO.of_grown g3 (fun r e => .inl (by injection e with e; omega))), ⟨?_, ?_, ⟨_, e2, ?_⟩, ?_, ?_, HI.out.bel.trans e5, Nat.le_trans HI.out.len e5.size⟩⟩
        · intro y hy
          rcases List.mem_append.1 hy with hy | hy
          · exact HI.out.ok y hy
          · rw [List.mem_singleton] at hy; rw [hy]
        · rw [List.length_append, List.length_singleton]; have := HI.out.few; omega
        · unfold OwG
          rw [hl9, hll]
          exact e3
        · exact ((HI.out.res.alloc _).kept HG2.out (HI.out.res.not_row (by decide) HO.out)).other (by omega) _
        · exact ((HI.out.flag.alloc _).kept HG2.out (HI.out.flag.not_row (by decide) HO.out)).other (by omega) _
  case done =>
    rintro D xs W2 hD rfl hi hK
    obtain ⟨v, hv, ho⟩ := hi.list
    obtain ⟨a, c, hv2⟩ := ho.shape
    subst hv2
    have cL := hv.cell
    have cR := hi.res.cell
    have fR := hi.res.frozen
    have cF := hi.flag.cell
    have fF := hi.flag.frozen
    have HI := hid hi
    have HO := hid ho
    have HV := hid hv
    clear hi ho hv
    gi_wp2
    obtain ⟨Y, hY⟩ : ∃ Y, (W2.setCell ⟨w.heap.size, 0, none⟩ (.slice a (List.map (fun x : G2 × Bool => x.1) (P.map rgv14)).length c)).setCell ⟨w.heap.size + 1, 0, none⟩ (.bool true) = Y := ⟨_, rfl⟩
    have g1 := grownBy_setCell' W2 w.heap.size (.slice a (List.map (fun x : G2 × Bool => x.1) (P.map rgv14)).length c)
    have g2 := grownBy_setCell' (W2.setCell ⟨w.heap.size, 0, none⟩ (.slice a (List.map (fun x : G2 × Bool => x.1) (P.map rgv14)).length c)) (w.heap.size + 1) (.bool true)
    have hK' : Y.heap[D]? = some (.deferred (some [])) := by rw [← hY]; exact ((KeepsOthers.setCell _ _ _).trans (KeepsOthers.setCell _ _ _)).same D _ hK rfl
    have y1 : Boxed Y w.heap.size 24 (.slice a (List.map (fun x : G2 × Bool => x.1) (P.map rgv14)).length c) := by rw [← hY]; exact (HI.out.res.set _).other (by omega) _
    have y2 : Boxed Y (w.heap.size + 1) 4 (.bool true) := by rw [← hY]; exact (HI.out.flag.other (by omega) _).set _
    have y3 : OwG Y w.heap.size (.slice a (List.map (fun x : G2 × Bool => x.1) (P.map rgv14)).length c) (List.map (fun x => x.1) (P.map rgv14)) := by
      rw [← hY]
      have o1 := HO.out.kept g1 (.inr (HI.out.res.not_row (by decide) HO.out).symm)
      exact o1.kept g2 (.inr ((HI.out.flag.other (by omega) _).not_row (by decide) o1).symm)
    have y4 : Below w.heap.size w Y := by rw [← hY]; exact bsk (bsk HI.out.bel (Nat.le_refl _) 0 _) (by omega) 0 _
    have hll : (List.map (fun x : G2 × Bool => x.1) (P.map rgv14)).length = P.length := by simp
    have gD := grownBy_putObj' Y D (.deferred none)
    have hrD : ∀ (r : Nat), some D = some r → w1.heap.size ≤ r ∧ ∃ o : Obj, Y.heap[r]? = some o ∧ o.isCells = false := fun r e => by injection e with e; subst e; exact ⟨hD, _, hK', rfl⟩
    have hsY : w.heap.size ≤ Y.heap.size := y4.size
    have hsm := grown_same gD hrD (show w.heap.size ≤ w1.heap.size by have := HS1.out; omega) hsY
    have z1 := Boxed.cell (hsm.2 _ _ y1 ⟨_, _, _, rfl, .inl rfl⟩)
    have z2 := Boxed.cell (hsm.2 _ _ y2 ⟨_, _, _, rfl, .inr (.inl rfl)⟩)
    rw [hll] at hY z1
    rw [hY]
    refine ⟨by simp, .inl ⟨_, _, rfl, run_takeDeferred hK', ?_⟩⟩
    have HR2 : rset s = some (List.map (fun x => x.1) (P.map rgv14)) := by
      rw [HRS.out]
      unfold rdl
      rw [if_pos ⟨List.all_eq_true.2 HI.out.ok, by have := HI.out.few; simpa using this⟩, List.nil_append]
    refine ⟨.tuple #[.slice a P.length c, .bool true], ?_, ⟨.slice a P.length c, ?_, ?_, y4.trans hsm.1⟩⟩
    · simp [results, Tryd.f8, go_sem, z1, z2]
    · rw [HR2]
      rw [hll] at y3
      exact y3.of_same hsm.2
    · rw [HR2]; rfl
  case stop =>
    rintro D c pre W2 hD hpre ⟨rfl, hx⟩ hK
    have cR := hx.res.cell
    have cF := hx.flag.cell
    have HX := hid hx
    clear hx
    gi_wp2
    have gD := grownBy_putObj' W2 D (.deferred none)
    have hrD : ∀ (r : Nat), some D = some r → w1.heap.size ≤ r ∧ ∃ o : Obj, W2.heap[r]? = some o ∧ o.isCells = false := fun r e => by injection e with e; subst e; exact ⟨hD, _, hK, rfl⟩
    have hsm := grown_same gD hrD (show w.heap.size ≤ w1.heap.size by have := HS1.out; omega) (show w.heap.size ≤ W2.heap.size by have := HX.out.len; omega)
    have z1 := Boxed.cell (hsm.2 _ _ HX.out.res ⟨_, _, _, rfl, .inl rfl⟩)
    have z2 := Boxed.cell (hsm.2 _ _ HX.out.flag ⟨_, _, _, rfl, .inr (.inl rfl)⟩)
    refine ⟨by simp, .inl ⟨_, _, rfl, run_takeDeferred hK, ?_⟩⟩
    have HR2 : rset s = none := by
      rw [HRS.out]
      rcases HX.out.bad with ⟨y, hy, hb⟩ | h8
      · exact rdl_bad (hpre.subset hy) hb
      · unfold rdl
        rw [if_neg]
        rintro ⟨_, h⟩
        have := hpre.length_le
        simp only [List.length_nil, Nat.zero_add] at h
        omega
    refine ⟨.tuple #[.slice none 0 0, .bool false], ?_, ⟨.slice none 0 0, ?_, ?_, HX.out.bel.trans hsm.1⟩⟩
    · simp [results, Tryd.f8, go_sem, z1, z2]
    · rw [HR2]
      exact OwG.nil14 _ _
    · rw [HR2]; rfl
end Go.Proofs.YtkbiebacbebdnaaDoor
namespace Go.Proofs.YtkbiebacbebdnaaDoor
open Go.RowKit
theorem endOf_any (x last : Int) (w : World) : Calls Tryd.prog 34 #[.int .i64 x, .int .i64 last] w fun e w' => e = .returned (.int .i64 (lst14 last x)) ∧ w' = w := by
  by_cases h : x = 0
  · have hx : (x == 0) = true := by rw [h]; rfl
    have HE : Hid (lst14 last x = last) := if_pos h
    clear h
    go_enter Tryd.func34, Tryd.ntmps34
    go_wp2
    go_ret
    exact ⟨by rw [HE.out]; rfl, rfl⟩
  · have hx : (x == 0) = false := by rw [beq_eq_false_iff_ne]; exact h
    have HE : Hid (lst14 last x = x) := if_neg h
    clear h
    go_enter Tryd.func34, Tryd.ntmps34
    go_wp2
    go_ret
    exact ⟨by rw [HE.out]; rfl, rfl⟩
set_option maxHeartbeats 1600000 in
set_option maxRecDepth 100000 in
theorem inSet1_any (x y last n : Int) (kl kn : Nat) (w : World) (hkl : kl < w.heap.size) (hl : w.cell? ⟨kl, 0, none⟩ = some (.int .i64 last)) (hkn : kn < w.heap.size) (hn : w.cell? ⟨kn, 0, none⟩ = some (.int .i64 n)) :
    Calls Tryd.prog 33 #[.agg #[.int .i64 x, .int .i64 y], .pointer (some ⟨kl, 0, none⟩), .pointer (some ⟨kn, 0, none⟩)] w fun e w' => e = .returned (.bool (inr n last (x, y))) ∧ Below w.heap.size w w' := by
  obtain ⟨W0, hW0⟩ : ∃ W0, w.alloc (.cells #[.int .i64 x, .int .i64 y] 47) = W0 := ⟨_, rfl⟩
  have B0 : Below w.heap.size w W0 := by subst hW0; exact bpush (bre _) _
  have c0 : W0.cell? ⟨w.heap.size, 0, none⟩ = some (.int .i64 x) := by subst hW0; exact cell_of_row _ _ 0 _ _ _ (heap_alloc_new w _)
  have c1 : W0.cell? ⟨w.heap.size, 1, none⟩ = some (.int .i64 y) := by subst hW0; exact cell_of_row _ _ 1 _ _ _ (heap_alloc_new w _)
  have c2 := (B0.cell (p := ⟨kl, 0, none⟩) hkl).trans hl
  have c3 := (B0.cell (p := ⟨kn, 0, none⟩) hkn).trans hn
  have HB0 := hid B0
  obtain ⟨p, hp⟩ : ∃ p, lst14 last x = p := ⟨_, rfl⟩
  obtain ⟨q, hq⟩ : ∃ q, lst14 last y = q := ⟨_, rfl⟩
  have HI : Hid (inr n last (x, y) = (decide (min p q ≤ n) && decide (n ≤ max p q))) := by show _ = _; rw [← hp, ← hq]; rfl
  have E1 := hid (hp ▸ endOf_any x last)
  have E2 := hid (hq ▸ endOf_any y last)
  clear hl hn B0 hp hq
  go_enter Tryd.func33, Tryd.ntmps33
  go_wp2_with fail
  clear hW0
  go_region_held3 (fun W => W.cell? ⟨w.heap.size, 0, none⟩ = some (.int .i64 x) ∧ W.cell? ⟨w.heap.size, 1, none⟩ = some (.int .i64 y) ∧ W.cell? ⟨kl, 0, none⟩ = some (.int .i64 last))
    (exact ⟨c0, c1, c2⟩)
    ((go_at_call 34; (first | (with_reducible refine (E1.out _).mono ?_) | (with_reducible refine (E2.out _).mono ?_)); rintro e w2 ⟨rfl, rfl⟩))
  have HW := hid (bdr HB0.out)
  go_wp2
  all_goals
    go_ret
    refine ⟨?_, HW.out⟩
    rw [HI.out]
    refine congrArg (fun b => Ending.returned (.bool b)) ?_
    show (_ : Bool) = _
    rw [Bool.eq_iff_iff, Bool.and_eq_true]
    first
      | (show decide _ = true ↔ _; simp only [decide_eq_true_eq]; omega)
      | (show false = true ↔ _; simp only [Bool.false_eq_true, decide_eq_true_eq, false_iff]; omega)
set_option maxHeartbeats 800000 in
set_option maxRecDepth 100000 in
theorem idxFuncG_any (a : Option Addr) (m cap : Nat) (l : List G2) (n last : Int) (kl kn : Nat) (w : World) (hl : l.length = m) (hm : m ≤ 1048576) (hr : Rr w a l) (hkl : kl < w.heap.size) (hcl : w.cell? ⟨kl, 0, none⟩ = some (.int .i64 last)) (hkn : kn < w.heap.size) (hcn : w.cell? ⟨kn, 0, none⟩ = some (.int .i64 n)) :
    Calls Tryd.prog 48 #[.slice a m cap, .func (.func 33) #[] #[.pointer (some ⟨kl, 0, none⟩), .pointer (some ⟨kn, 0, none⟩)]] w fun e w' => ∃ i : Int, e = .returned (.int .i64 i) ∧ (decide (0 ≤ i) = l.any (inr n last)) ∧ Below w.heap.size w w' := by
  have HR := hid hr
  have HL := hid hl
  have HC := hid (And.intro hkl (And.intro hcl (And.intro hkn hcn)))
  clear hr hl hkl hcl hkn hcn
  go_enter Tryd.func48, Tryd.ntmps48
  go_wp2
  go_loopw [8] (fun iv wr => ∃ (i : Nat), i ≤ m ∧ iv = .int .i64 (i : Int) ∧ Hid ((l.take i).any (inr n last) = false) ∧ Below w.heap.size w wr) (fun iv _ => m - (intOf iv).toNat)
  case atStart => exact ⟨0, Nat.zero_le _, rfl, rfl, bre _⟩
  case round =>
    obtain ⟨i, hi, rfl, HA, hb⟩ := hrel
    have HB := hid hb
    clear hb
    by_cases hlt : i < m
    · have hil : i < l.length := by rw [HL.out]; exact hlt
      obtain ⟨k, o, rfl, hk, hcs⟩ := (HR.out.later HB.out) (by omega)
      obtain ⟨c1, c2⟩ := hcs i hil
      obtain ⟨⟨x, y⟩, hxy⟩ : ∃ p, l[i] = p := ⟨_, rfl⟩
      rw [hxy] at c1 c2
      dsimp only at c1 c2
      have HXY := hid hxy
      have HN := hid (inSet1_any x y last n kl kn wr (Nat.lt_of_lt_of_le HC.out.1 HB.out.size) ((HB.out.cell (p := ⟨kl, 0, none⟩) HC.out.1).trans HC.out.2.1) (Nat.lt_of_lt_of_le HC.out.2.2.1 HB.out.size) ((HB.out.cell (p := ⟨kn, 0, none⟩) HC.out.2.2.1).trans HC.out.2.2.2))
      obtain ⟨r, hrr⟩ : ∃ r, inr n last (x, y) = r := ⟨_, rfl⟩
      rw [hrr] at HN
      have HRR := hid hrr
      have hI : (0 : Int) ≤ (i : Int) ∧ (i : Int) < (m : Int) := by omega
      clear hcs hxy hrr
      go_wp2_with fail
      refine HN.out.mono ?_; rintro e w1 ⟨rfl, hb1⟩
      have HB1 := hid (btr HB.out hb1)
      clear hb1 c1 c2
      cases r
      · have HE := hid (any_take _ l i hil HA.out (by rw [HXY.out]; exact HRR.out))
        go_wp2
        go_roundw
        case rel => exact ⟨i + 1, by omega, by go_num, HE.out, HB1.out⟩
        case measure => simp [intOf]; omega
      · have HE := hid (any_hit (inr n last) l i hil (by rw [HXY.out]; exact HRR.out))
        go_wp2
        go_ret
        exact ⟨(i : Int), rfl, by rw [HE.out, decide_eq_true (by omega)], HB1.out⟩
    · have HE : Hid (l.any (inr n last) = false) := by
        show _ = _
        have := HA.out
        rwa [List.take_of_length_le (by rw [HL.out]; omega)] at this
      go_wp2
      go_ret
      exact ⟨-1, rfl, by rw [HE.out]; rfl, HB.out⟩
set_option maxHeartbeats 800000 in
set_option maxRecDepth 100000 in
theorem hasFuncG_any (a : Option Addr) (m cap : Nat) (l : List G2) (n last : Int) (kl kn : Nat) (w : World) (hl : l.length = m) (hm : m ≤ 1048576) (hr : Rr w a l) (hkl : kl < w.heap.size) (hcl : w.cell? ⟨kl, 0, none⟩ = some (.int .i64 last)) (hkn : kn < w.heap.size) (hcn : w.cell? ⟨kn, 0, none⟩ = some (.int .i64 n)) :
    Calls Tryd.prog 32 #[.slice a m cap, .func (.func 33) #[] #[.pointer (some ⟨kl, 0, none⟩), .pointer (some ⟨kn, 0, none⟩)]] w fun e w' => e = .returned (.bool (l.any (inr n last))) ∧ Below w.heap.size w w' := by
  have HN := hid (idxFuncG_any a m cap l n last kl kn w hl hm hr hkl hcl hkn hcn)
  clear hr hl hkl hcl hkn hcn
  go_enter Tryd.func32, Tryd.ntmps32
  go_wp2_with fail
  refine HN.out.mono ?_; rintro e w1 ⟨i, rfl, hi, hb⟩
  have HI := hid hi
  have HB := hid hb
  clear hi hb
  go_wp2
  go_ret
  exact ⟨by rw [← HI.out]; rfl, HB.out⟩
set_option maxHeartbeats 800000 in
set_option maxRecDepth 100000 in
theorem implInSet_any (a : Option Addr) (m cap : Nat) (l : List G2) (n last : Int) (w : World) (hl : l.length = m) (hm : m ≤ 1048576) (hr : Rr w a l) :
    Calls Tryd.prog 11 #[.slice a m cap, .int .i64 n, .int .i64 last] w fun e w' => e = .returned (.bool (ins l n last)) ∧ Below w.heap.size w w' := by
  obtain ⟨W0, hW0⟩ : ∃ W0, (w.alloc (.cells #[.int .i64 n] 3)).alloc (.cells #[.int .i64 last] 3) = W0 := ⟨_, rfl⟩
  have B0 : Below w.heap.size w W0 := by subst hW0; exact bpush (bpush (bre _) _) _
  have hs : W0.heap.size = w.heap.size + 1 + 1 := by subst hW0; simp
  have cn : W0.cell? ⟨w.heap.size, 0, none⟩ = some (.int .i64 n) := by
    subst hW0
    exact cell_of_row _ _ 0 _ _ _ ((Below.heap_alloc _ _ _ (by simp)).trans (heap_alloc_new w _))
  have cl : W0.cell? ⟨w.heap.size + 1, 0, none⟩ = some (.int .i64 last) := by
    subst hW0
    have h := heap_alloc_new (w.alloc (.cells #[.int .i64 n] 3)) (.cells #[.int .i64 last] 3)
    rw [show (w.alloc (.cells #[.int .i64 n] 3)).heap.size = w.heap.size + 1 by simp] at h
    exact cell_of_row _ _ 0 _ _ _ h
  have HF := hid (hasFuncG_any a m cap l n last (w.heap.size + 1) w.heap.size W0 hl hm (hr.later B0) (by omega) cl (by omega) cn)
  have HB := hid B0
  clear hl hr B0 hs cl
  by_cases h1 : 0 < n
  · have HI : Hid (ins l n last = l.any (inr n last)) := by show _ = _; rw [ins, decide_eq_true (by omega), Bool.true_and]
    go_enter Tryd.func11, Tryd.ntmps11
    go_wp2_with fail
    refine HF.out.mono ?_; rintro e w1 ⟨rfl, hb⟩
    have HB1 := hid (btr HB.out hb)
    clear hb cn
    go_wp2
    go_ret
    exact ⟨by rw [HI.out]; rfl, HB1.out⟩
  · have HI : Hid (ins l n last = false) := by show _ = _; rw [ins, decide_eq_false (by omega), Bool.false_and]
    go_enter Tryd.func11, Tryd.ntmps11
    go_wp2
    go_ret
    exact ⟨by rw [HI.out]; rfl, HB.out⟩
set_option maxHeartbeats 1600000 in
set_option maxRecDepth 100000 in
theorem implPicked_any (a : Option Addr) (m cap : Nat) (l : List G2) (n : Int) (w : World) (hl : l.length = m) (hm : m ≤ 1048576) (hr : Rr w a l) (hn : n ≤ 9223372036854775807) :
    Calls Tryd.prog 10 #[.slice a m cap, .int .i64 n] w fun e w' => ∃ v, e = .returned v ∧ w'.ownsRow w.heap.size 3 1 v (pks l n).length ((pks l n).map ic) ∧ Below w.heap.size w w' := by
  have HR := hid hr
  have HL := hid hl
  have HM := hid hm
  clear hr hl
  go_enter Tryd.func10, Tryd.ntmps10
  go_wp2
  go_loopw [5, 6] (fun ov iv wr => ∃ j : Nat, j ≤ 100 ∧ ((j : Int) ≤ n ∨ j = 0) ∧ iv = .int .i64 ((j : Int) + 1) ∧ wr.ownsRow w.heap.size 3 1 ov (pkd l n j).length ((pkd l n j).map ic) ∧ Below w.heap.size w wr) (fun _ iv _ => 102 - (intOf iv).toNat)
  case atStart => exact ⟨0, by omega, Or.inr rfl, rfl, ⟨by simp [pkd], Or.inl ⟨rfl, rfl⟩⟩, bre _⟩
  case round =>
    obtain ⟨j, hj, hjn, rfl, ho, hb⟩ := hrel
    have HO := hid ho
    have HB := hid hb
    clear ho hb
    by_cases h1 : (j : Int) + 1 ≤ n
    · by_cases h2 : (j : Int) + 1 ≤ 100
      · have HS := hid (implInSet_any a m cap l ((j : Int) + 1) n wr HL.out HM.out (HR.out.later HB.out))
        cases hin : ins l ((j : Int) + 1) n with
        | true =>
          rw [hin] at HS
          have HP : Hid (pkd l n (j + 1) = pkd l n j ++ [j + 1]) := by show _ = _; rw [pkd, if_pos hin]
          have HLN : Hid ((pkd l n j).length ≤ 1000000) := by have := pkd_len l n j; show _ ≤ _; omega
          have HSZ := hid HB.out.size
          clear hin hjn
          by_cases h3 : 100 < n
          all_goals
            go_wp2_with fail
            refine HS.out.mono ?_; rintro e w1 ⟨rfl, hb1⟩
            have HB1 := hid (btr HB.out hb1)
            have HO1 := hid (own_later HO.out hb1)
            have HSZ1 := hid HB1.out.size
            clear hb1
            go_wp2_with (at_builtin; refine wpList_append_nat w1 rfl (.tmp 17) (.tmp 19) 29 rfl w.heap.size 3 info_int14 Tryd.underlying29 _ _ (by rfl) HO1.out _ (j + 1) (by omega) rfl HLN.out HSZ1.out ?_; rotate_right; intro v2 w2 ho2 hb2; have HO2 := hid ho2; have HB2 := hid hb2; clear ho2 hb2)
            go_roundw
            case rel => exact ⟨j + 1, by omega, Or.inl (by omega), by go_num, HP.out ▸ HO2.out, HB1.out.trans HB2.out⟩
            case measure => simp [intOf]; omega
        | false =>
          rw [hin] at HS
          have HP : Hid (pkd l n (j + 1) = pkd l n j) := by show _ = _; rw [pkd, if_neg (by rw [hin]; decide)]
          clear hin hjn
          by_cases h3 : 100 < n
          all_goals
            go_wp2_with fail
            refine HS.out.mono ?_; rintro e w1 ⟨rfl, hb1⟩
            have HB1 := hid (btr HB.out hb1)
            have HO1 := hid (own_later HO.out hb1)
            clear hb1
            go_wp2
            go_roundw
            case rel => exact ⟨j + 1, by omega, Or.inl (by omega), by go_num, HP.out ▸ HO1.out, HB1.out⟩
            case measure => simp [intOf]; omega
      · have HE : Hid (pks l n = pkd l n j) := by show _ = _; rw [pks, show min 100 n.toNat = j by omega]
        go_wp2
        go_ret
        exact ⟨_, rfl, HE.out ▸ HO.out, HB.out⟩
    · have HE : Hid (pks l n = pkd l n j) := by show _ = _; rw [pks, show min 100 n.toNat = j by omega]
      go_wp2
      go_ret
      exact ⟨_, rfl, HE.out ▸ HO.out, HB.out⟩
/-- Decimal figures of a number: the library's own word for them. -/
def dg (n : Nat) : List UInt8 := Lib.decDigits n
theorem dg_small (n : Nat) (h : n < 10) : dg n = [UInt8.ofNat (48 + n)] := by unfold dg; rw [Lib.decDigits, dif_pos h]
theorem dg_big (n : Nat) (h : ¬ n < 10) : dg n = dg (n / 10) ++ [UInt8.ofNat (48 + n % 10)] := by unfold dg; rw [Lib.decDigits, dif_neg h]
theorem dg_len : ∀ (k n : Nat), n < 10 ^ (k + 1) → (dg n).length ≤ k + 1
  | 0, n, h => by rw [dg_small n (by simpa using h)]; simp
  | k + 1, n, h => by
    by_cases hn : n < 10
    · rw [dg_small n hn]; simp
    · rw [dg_big n hn]
      have := dg_len k (n / 10) (by rw [Nat.pow_succ] at h; omega)
      simp; omega
def dgz (n : Nat) : List UInt8 := if n = 0 then [] else dg n
theorem dgz_zero : dgz 0 = [] := rfl
theorem dgz_pos (n : Nat) (h : n ≠ 0) : dgz n = dg n := by simp [dgz, h]
theorem dgz_step (m : Nat) (h : m ≠ 0) : dgz m = dgz (m / 10) ++ [UInt8.ofNat (48 + m % 10)] := by
  rw [dgz_pos m h]
  by_cases h1 : m < 10
  · rw [dg_small m h1, show m / 10 = 0 by omega, dgz_zero, show m % 10 = m by omega]; rfl
  · rw [dg_big m h1, dgz_pos _ (by omega)]
theorem u8_48 (x : Nat) (h : x < 10) : ((UInt8.ofNat (48 + x)).toNat : Int) = 48 + (x : Int) := by rw [u8_nat _ (by omega)]; omega
theorem figure_dec (x : Nat) (b : UInt8) (w : World) (h : x < 10) (hb : b = UInt8.ofNat (48 + x)) :
    Calls Tryd.prog 56 #[.int .i64 x] w fun e w' => e = .returned (.int .u8 b.toNat) ∧ w = w' := by
  subst hb
  go_enter Tryd.func56, Tryd.ntmps56
  go_wp2
  go_ret
  exact ⟨ret_int (by rw [u8_48 x h]), rfl⟩
theorem run_one (b : UInt8) (w : World) : (convert 22 9 (.slice (some ⟨w.heap.size, 0, none⟩) 1 1)).run Tryd.prog (w.alloc (.cells #[.int .u8 (b.toNat : Int)] 5)) = .ok (.string ⟨#[b]⟩) (w.alloc (.cells #[.int .u8 (b.toNat : Int)] 5)) :=
  run_string_own (P := Tryd.prog) _ 22 9 5 Tryd.underlying22 Tryd.underlying5 Tryd.underlying9 [b] (World.ownsRow_lit (base := 0) w #[bv b] 1 (Nat.zero_le _) (by decide) rfl)
theorem ba_cons (b : UInt8) (t : List UInt8) : (⟨#[b]⟩ ++ ⟨t.toArray⟩ : ByteArray) = ⟨(b :: t).toArray⟩ := by
  apply ByteArray.ext
  rw [ByteArray.data_append]
  simp
set_option maxHeartbeats 4000000 in
set_option maxRecDepth 100000 in
theorem decimal_pos (n : Nat) (w : World) (hn : n ≤ 9223372036854775807) :
    Calls Tryd.prog 49 #[.int .i64 n] w fun e w' => e = .returned (.string ⟨(dg n).toArray⟩) ∧ Below w.heap.size w w' := by
  by_cases h0 : n = 0
  · subst h0
    go_enter Tryd.func49, Tryd.ntmps49
    go_wp2
    go_ret
    exact ⟨ret_str (by rw [dg_small 0 (by decide)]; rfl), Below.refl _ _⟩
  · have h0' : ((n : Int) == 0) = false := by simp; omega
    have hl := dg_len 18 n (by omega)
    go_enter Tryd.func49, Tryd.ntmps49
    go_wp2
    go_loopw [0, 4] (fun nv sv wr => ∃ (m : Nat) (t : List UInt8), nv = .int .i64 (m : Int) ∧ sv = .string ⟨t.toArray⟩ ∧ m ≤ n ∧ dgz m ++ t = dg n ∧ Below w.heap.size w wr) (fun nv _ _ => (intOf nv).toNat)
    case atStart => exact ⟨n, [], rfl, rfl, Nat.le_refl _, by rw [dgz_pos n h0]; simp, Below.refl _ _⟩
    case round =>
      clear h0'
      obtain ⟨m, t, rfl, rfl, hm, ht, hb⟩ := hrel
      have hsz := hb.size
      have htl : t.length ≤ 19 := by have := congrArg List.length ht; simp at this; omega
      have HT := (show Hid (dgz m ++ t = dg n) from ht)
      clear ht hl
      by_cases hz : m = 0
      · have hz' : ((m : Int) != 0) = false := by simp; omega
        have HZ := (show Hid (m = 0) from hz)
        clear hz
        go_wp2
        go_ret
        exact ⟨ret_str (by rw [← HT.out, HZ.out]; rfl), hb⟩
      · have hz' : ((m : Int) != 0) = true := by simp; omega
        obtain ⟨d, hd⟩ : ∃ d : Nat, m % 10 = d := ⟨_, rfl⟩
        have hdi : (m : Int) % 10 = (d : Int) := by omega
        have hdb : d < 10 := by omega
        have HD := (show Hid (m % 10 = d) from hd)
        obtain ⟨b, hbb⟩ : ∃ b, b = UInt8.ofNat (48 + d) := ⟨_, rfl⟩
        have HBB := (show Hid (b = UInt8.ofNat (48 + d)) from hbb)
        have hone := run_one b wr
        clear hd hbb
        go_wp2_with fail
        refine (figure_dec d b _ hdb HBB.out).mono ?_; rintro e w1 ⟨rfl, rfl⟩
        go_wp2
        go_roundw
        case rel => exact ⟨m / 10, b :: t, by go_num, by rw [ba_cons], by omega, by rw [← HT.out, dgz_step m hz, HD.out, ← HBB.out]; simp, hb.alloc hsz _⟩
        case measure => simp [intOf]; omega
theorem itoa_pos (n : Nat) : Lib.itoa (n : Int) = dg n := by unfold Lib.itoa dg; rw [if_neg (by omega)]; rfl
theorem below_grow (w : World) (k : Nat) (os : Array Obj) : Below w.heap.size w (Sort.grow (w.drewN k) os) :=
  ⟨rfl, rfl, rfl, by show w.heap.size ≤ (w.heap ++ os).size; simp, fun i hi => by show (w.heap ++ os)[i]? = w.heap[i]?; rw [Array.getElem?_append_left hi]⟩
theorem implDecimal_any (n : Int) (w : World) (h0 : -9223372036854775808 ≤ n) (h1 : n ≤ 9223372036854775807) (htab : Lib.TabIs Tryd.prog w "internal/strconv.uint64pow10" .u64 Lib.pow10Tab) :
    Calls Tryd.prog 50 #[.int .i64 n] w fun e w' => e = .returned (.string ⟨(Lib.itoa n).toArray⟩) ∧ Below w.heap.size w w' := by
  have HT := hide htab
  clear htab
  go_enter Tryd.func50, Tryd.ntmps50
  go_wp2_with fail
  refine (Tryd.strconv_Itoa n h0 h1 _ (unhide HT)).mono ?_; rintro e w1 ⟨rfl, k, os, rfl⟩
  go_wp2
  go_ret
  exact ⟨rfl, below_grow _ _ _⟩
theorem gPow : Tryd.prog.globalNamed "internal/strconv.uint64pow10" = some 3 := by kernel_rfl
theorem tab_later {w w1 : World} (hb : Below w.heap.size w w1) (htab : Lib.TabIs Tryd.prog w "internal/strconv.uint64pow10" .u64 Lib.pow10Tab) : Lib.TabIs Tryd.prog w1 "internal/strconv.uint64pow10" .u64 Lib.pow10Tab := by
  have hc := htab.cell gPow 0 (by decide)
  exact var?_below hb gPow (World.block_lt_of_cell? _ _ hc) htab
/-- A number of a set, as it is written. -/
def t14 (n : Int) : ByteArray := if n ≤ 0 then ⟨#[42]⟩ else ⟨(dg n.toNat).toArray⟩
theorem t14_size (n : Int) (h : n ≤ 9223372036854775807) : (t14 n).size ≤ 20 := by
  unfold t14
  split
  · decide
  · show (dg n.toNat).toArray.size ≤ _
    rw [List.size_toArray]
    exact dg_len 19 _ (by omega)
theorem text14_any (n : Int) (w : World) (hn : n ≤ 9223372036854775807) :
    Calls Tryd.prog 39 #[.int .i64 n] w fun e w' => e = .returned (.string (t14 n)) ∧ Below w.heap.size w w' := by
  by_cases h : n ≤ 0
  · have HT : Hid (t14 n = ⟨#[42]⟩) := by show _ = _; rw [t14, if_pos h]
    go_enter Tryd.func39, Tryd.ntmps39
    go_wp2
    go_ret
    exact ⟨by rw [HT.out]; rfl, bre _⟩
  · have HT : Hid (t14 n = ⟨(dg n.toNat).toArray⟩) := by show _ = _; rw [t14, if_neg h]
    obtain ⟨m, rfl⟩ : ∃ m : Nat, n = (m : Int) := ⟨n.toNat, by omega⟩
    go_enter Tryd.func39, Tryd.ntmps39
    go_wp2_with fail
    refine (decimal_pos m _ (by omega)).mono ?_; rintro e w1 ⟨rfl, hb⟩
    go_wp2
    go_ret
    exact ⟨by rw [HT.out]; rfl, hb⟩
end Go.Proofs.YtkbiebacbebdnaaDoor
