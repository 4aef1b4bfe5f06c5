/- Wv, Ww, Lbt, Lrb, Open, OpenL, OpenM. -/
import Derived.Test.YtocfggfccbnbhaaB12
import Derived.Test.YtocfggfccbnbhaaRows
import Derived.WalkKit
import Derived.ProofKit
import Derived.OpenShut
import Derived.Lib.SmallJoins
import Derived.Deep.Slices
import Derived.Carry
namespace Go.Proofs.Ytocfggfccbnbhaa
open Go.RowKit Go.ChangeMaps
def mt4 (m : M4) : ByteArray := mtx m.1 m.2.1 m.2.2.1 m.2.2.2
set_option maxHeartbeats 3200000 in
set_option maxRecDepth 100000 in
theorem ltMails_any (lo hi : Nat) (ao : Option Addr) (n c : Nat) (L : List M4) (w : World) (hl : L.length = n) (hn : n ≤ 1048576) (hsm : Sm L) (hr : Ms lo hi w ao L) (hg : ∀ m ∈ L, mlOk m.1 m.2.1 m.2.2.1 m.2.2.2 = true) :
    Calls Try.prog 25 #[.slice ao n c, .func (.func 26) #[] #[]] w fun e w' => ∃ v, e = .returned v ∧ OwR w' w.heap.size v (vi n :: L.map mt4) ∧ Below w.heap.size w w' := by
  have HL := hid hl
  have HR := hid hr
  have HG := hid hg
  have HSM := hid hsm
  obtain ⟨x1, e1, C1⟩ := texts1 (n : Int) (by omega)
  clear hl hr hg hsm
  go_enter Try.func25, Try.ntmps25
  go_wp2_with fail
  refine (C1.out _ _ rfl).mono ?_; rintro e w1 ⟨rfl, hb1⟩
  have O1 := hid (ownR_one w1 x1)
  have B1 := hid hb1
  have B2 := hid (bpush hb1 (.cells #[.string x1] 9))
  have hs1 := hb1.size
  clear hb1
  go_wp2
  obtain ⟨W1, hW1⟩ : ∃ W, w1.alloc (.cells #[.string x1] 9) = W := ⟨_, rfl⟩
  have O2 : Hid (OwR W1 w.heap.size (.slice (some ⟨w1.heap.size, 0, none⟩) 1 1) [x1]) := hid (by rw [← hW1]; exact own_base O1.out hs1)
  rw [hW1] at B2
  rw [hW1]
  clear hW1 O1 B1 hs1
  go_loopw [5, 17] (fun ov iv wr => ∃ (i : Nat), i ≤ n ∧ iv = .int .i64 (i : Int) ∧ OwR wr w.heap.size ov (vi n :: (L.take i).map mt4) ∧ Below w.heap.size w wr) (fun _ iv _ => n - (intOf iv).toNat)
  case atStart => exact ⟨0, Nat.zero_le _, rfl, by rw [← e1.out]; exact O2.out, B2.out⟩
  case round =>
    obtain ⟨i, hi2, rfl, ho, hb⟩ := hrel
    have XO := hid ho
    have XB := hid hb
    clear ho hb O2 B2
    by_cases hlt : i < n
    · have hil : i < L.length := by rw [HL.out]; exact hlt
      have HT : Hid (L.take (i + 1) = L.take i ++ [L[i]]) := take_next L i hil
      obtain ⟨k, o, fa, fc, rfl, hk, d, hrs, _⟩ := (HR.out.later XB.out).at hil
      have hok := HG.out L[i] (List.getElem_mem hil)
      have hfl := (HSM.out L[i] (List.getElem_mem hil)).1
      have HLN : Hid ((vi n :: (L.take i).map mt4).length ≤ 2000000) := hid (by show _ ≤ _; simp only [List.length_cons, List.length_map, List.length_take]; omega)
      obtain ⟨q, hq⟩ : ∃ q, L[i] = q := ⟨_, rfl⟩
      obtain ⟨g2, u, fl, tx⟩ := q
      rw [hq] at d hrs hok hfl HT
      dsimp only at d hrs hok hfl
      have hb9 := bpush (bre wr) (.cells #[.int .i64 g2, .int .i64 u, .slice fa fl.length fc, .string tx] 49)
      have MM := hid (Mg.new wr 49 g2 u (.slice fa fl.length fc) tx)
      have CT := implMailText_any g2 u fa fl.length fc fl tx (wr.alloc (.cells #[.int .i64 g2, .int .i64 u, .slice fa fl.length fc, .string tx] 49)) rfl hfl (hrs.later hb9)
      have hE2 : mtR g2 u fl tx = .tuple #[.string (mtx g2 u fl tx), .bool true] := by unfold mtR; rw [hok]; rfl
      rw [hE2] at CT
      obtain ⟨xm, hxm⟩ : ∃ x, mtx g2 u fl tx = x := ⟨_, rfl⟩
      have HXM : Hid (xm = mt4 (g2, u, fl, tx)) := hid hxm.symm
      obtain ⟨lf, hlf⟩ : ∃ n, fl.length = n := ⟨_, rfl⟩
      rw [hxm] at CT
      rw [hlf] at CT d hb9 MM
      have HCT := hid CT
      have XO9 : Hid (OwR (wr.alloc (.cells #[.int .i64 g2, .int .i64 u, .slice fa lf fc, .string tx] 49)) w.heap.size u5 (vi n :: (L.take i).map mt4)) := hid (own_later XO.out hb9)
      have XB9 := hid (btr XB.out hb9)
      have dm := MM.out.cells
      clear hq hok hfl hE2 hxm hlf CT hrs hb9
      go_wp2_with fail
      refine HCT.out.mono ?_; rintro e w3 ⟨rfl, hb3⟩
      have O3 : Hid (OwR w3 w.heap.size u5 (vi n :: (L.take i).map mt4)) := hid (own_later XO9.out hb3)
      have B3 := hid (btr XB9.out hb3)
      have hs3 := B3.out.size
      clear d dm hb3 HCT XO9 XB9
      go_wp2_with (at_builtin; refine wpList_append_str w3 rfl (.tmp 27) (.tmp 29) rfl w.heap.size _ _ (by rfl) O3.out xm rfl HLN.out hs3 ?_; intro v4 w4 hown4 hb4; have HO4 := hid hown4; have HB4 := hid hb4; clear hown4 hb4)
      go_roundw
      case rel => exact ⟨i + 1, by omega, by go_num, by rw [HT.out, List.map_append, ← List.cons_append]; rw [HXM.out] at HO4; exact HO4.out, B3.out.trans HB4.out⟩
      case measure => simp [intOf]; omega
    · have HE : Hid (L.take i = L) := List.take_of_length_le (by rw [HL.out]; omega)
      have XO2 : Hid (OwR wr w.heap.size u5 (vi n :: L.map mt4)) := hid (by have h := XO.out; rw [HE.out] at h; exact h)
      go_wp2
      go_ret
      exact ⟨_, rfl, XO2.out, XB.out⟩
end Go.Proofs.Ytocfggfccbnbhaa

namespace Go.Proofs.Ytocfggfccbnbhaa
open Go.RowKit Go.ChangeMaps
theorem cat_mts (L : List M4) : cat (L.map mt4) = mts L := by
  induction L with
  | nil => rfl
  | cons m L ih => simp only [List.map_cons, cat, mts, ih]; rfl
theorem cat_vis (G : List Int) : cat (G.map vi) = vis G := by
  induction G with
  | nil => rfl
  | cons x G ih => simp only [List.map_cons, cat, vis, ih]
theorem vi_pos (n : Int) : 0 < (vi n).size := by
  have h : (vi n).size = (vbs n.toNat).length := by show (vbs n.toNat).toArray.size = _; simp
  rw [h]
  by_cases h2 : 127 < n.toNat
  · rw [vbs_big _ h2]; simp
  · rw [vbs_small _ h2]; simp
theorem mt4_pos (m : M4) : 0 < (mt4 m).size := by
  unfold mt4 mtx
  simp only [ByteArray.size_append]
  have := vi_pos m.1
  omega
/-- Block k holds one number, three numbers. -/
def In1 (W : World) (k : Nat) (x : Int) : Prop := W.heap[k]? = some (.cells #[.int .i64 x] 3 (0, 0))
def In3 (W : World) (k : Nat) (x y z : Int) : Prop := W.heap[k]? = some (.cells #[.int .i64 x, .int .i64 y, .int .i64 z] 3 (0, 0))
theorem In1.later {W W' : World} {k : Nat} {x : Int} (h : In1 W k x) (hb : Below W.heap.size W W') : In1 W' k x := (hb.block k (Array.getElem?_eq_some_iff.1 h).1).trans h
theorem In3.later {W W' : World} {k : Nat} {x y z : Int} (h : In3 W k x y z) (hb : Below W.heap.size W W') : In3 W' k x y z := (hb.block k (Array.getElem?_eq_some_iff.1 h).1).trans h
theorem vt1 (x : Int) (hx : 0 ≤ x ∧ x ≤ 1000000000) : ∃ s : ByteArray, Hid (s = vi x) ∧ Hid (∀ W k, In1 W k x → Calls Try.prog 24 #[.slice (some ⟨k, 0, none⟩) 1 1] W fun e w' => e = .returned (.string s) ∧ Below W.heap.size W w') := by
  refine ⟨vis [x], ?_, fun W k h => ?_⟩
  · show _ = _; simp only [vis, nil_ba]
  · refine varTexts_any k [x] 1 _ rfl (by omega) (by intro z hz; simp at hz; subst hz; assumption) (Array.getElem?_eq_some_iff.1 h).1 ?_
    intro i hi
    have h2 : i = 0 := by simp at hi; omega
    subst h2
    exact cell_of_row _ _ 0 _ _ _ h
theorem vt3 (x y z : Int) (hx : 0 ≤ x ∧ x ≤ 1000000000) (hy : 0 ≤ y ∧ y ≤ 1000000000) (hz : 0 ≤ z ∧ z ≤ 1000000000) : ∃ s : ByteArray, Hid (s = vi x ++ vi y ++ vi z) ∧ Hid (∀ W k, In3 W k x y z → Calls Try.prog 24 #[.slice (some ⟨k, 0, none⟩) 3 3] W fun e w' => e = .returned (.string s) ∧ Below W.heap.size W w') := by
  refine ⟨vis [x, y, z], ?_, fun W k h => ?_⟩
  · show _ = _; simp only [vis, nil_ba, ByteArray.append_assoc]
  · refine varTexts_any k [x, y, z] 3 _ rfl (by omega) (by intro v hv; simp at hv; rcases hv with rfl | rfl | rfl <;> assumption) (Array.getElem?_eq_some_iff.1 h).1 ?_
    intro i hi
    have h2 : i = 0 ∨ i = 1 ∨ i = 2 := by simp at hi; omega
    rcases h2 with rfl | rfl | rfl
    · exact cell_of_row _ _ 0 _ _ _ h
    · exact cell_of_row _ _ 1 _ _ _ h
    · exact cell_of_row _ _ 2 _ _ _ h
theorem ownR_three (w : World) (x y z : ByteArray) : OwR (w.alloc (.cells #[.string x, .string y, .string z] 9)) w.heap.size (.slice (some ⟨w.heap.size, 0, none⟩) 3 3) [x, y, z] := by
  have h := World.ownsRow_lit (base := w.heap.size) (e := 9) (size := 1) w #[.string x, .string y, .string z] 3 (Nat.le_refl _) (by unfold maxLen; omega) rfl
  simpa [OwR] using h
/-- The parts of a box's text are its text. -/
def bparts (g : Int) (nm : ByteArray) (t b nx : Int) (L : List M4) (G : List Int) : List ByteArray := ([vi g, vi nm.size ++ nm, vi t ++ vi b ++ vi nx] ++ (vi L.length :: L.map mt4)) ++ (vi G.length :: G.map vi)
theorem bparts_cat (g : Int) (nm : ByteArray) (t b nx : Int) (L : List M4) (G : List Int) : cat (bparts g nm t b nx L G) = btx g nm t b nx L G := by
  unfold bparts btx bth
  simp only [cat_app, cat, cat_mts, cat_vis, nil_ba, ByteArray.append_assoc]
theorem bparts_pos (g : Int) (nm : ByteArray) (t b nx : Int) (L : List M4) (G : List Int) : ∀ x ∈ bparts g nm t b nx L G, 0 < x.size := by
  intro x hx
  unfold bparts at hx
  have h1 := vi_pos g
  have h2 := vi_pos nm.size
  have h3 := vi_pos t
  simp only [List.mem_append, List.mem_cons, List.mem_map, List.not_mem_nil, or_false] at hx
  rcases hx with ((rfl | rfl | rfl) | rfl | ⟨m, _, rfl⟩) | rfl | ⟨y, _, rfl⟩
  · exact h1
  · rw [ByteArray.size_append]; omega
  · rw [ByteArray.size_append, ByteArray.size_append]; omega
  · exact vi_pos _
  · exact mt4_pos m
  · exact vi_pos _
  · exact vi_pos y
theorem bparts_len (g : Int) (nm : ByteArray) (t b nx : Int) (L : List M4) (G : List Int) : (bparts g nm t b nx L G).length = L.length + G.length + 5 := by
  unfold bparts
  simp only [List.length_append, List.length_cons, List.length_map, List.length_nil]
  omega
set_option maxHeartbeats 16000000 in
set_option maxRecDepth 100000 in
theorem implBoxText_any (l1 h1 l2 h2 : Nat) (g : Int) (nm : ByteArray) (t b nx : Int) (ma : Option Addr) (mn mc : Nat) (ga : Option Addr) (gn gc : Nat) (L : List M4) (G : List Int) (w : World) (hnm : nm.size ≤ 1048576) (hl : L.length = mn) (hn : mn ≤ 1048576) (hsm : Sm L) (hm : Ms l1 h1 w ma L) (hgl : G.length = gn) (hgn : gn ≤ 1048576) (hs : Is l2 h2 w ga G) :
    Calls Try.prog 8 #[.agg #[.int .i64 g, .string nm, .int .i64 t, .int .i64 b, .int .i64 nx, .slice ma mn mc, .slice ga gn gc]] w fun e w' => e = .returned (btR g nm t b nx L G) ∧ Below w.heap.size w w' := by
  obtain ⟨W0, hW0⟩ : ∃ W0, w.alloc (.cells #[.int .i64 g, .string nm, .int .i64 t, .int .i64 b, .int .i64 nx, .slice ma mn mc, .slice ga gn gc] 34) = W0 := ⟨_, rfl⟩
  have XB : Hid (Bx W0 w.heap.size 34 g nm t b nx (.slice ma mn mc) (.slice ga gn gc)) := by subst hW0; exact hid (Bx.new w _ _ _ _ _ _ _ _)
  have HB : Hid (Below w.heap.size w W0) := by subst hW0; exact hid (bpush (bre _) _)
  have HM := hid hm
  have HS := hid hs
  have HL := hid hl
  have HG := hid hgl
  have HX := hid hsm
  have c0 := XB.out.cells
  have HOK := hid (implBoxOk_any l1 h1 l2 h2 g nm t b nx ma mn mc ga gn gc L G W0 hnm hl hn hsm (hm.later HB.out) hgl hgn (hs.later HB.out))
  clear hm hs hl hgl hsm
  cases hok : bxOk g nm t b nx L G
  · have hE : btR g nm t b nx L G = .tuple #[.string ⟨#[]⟩, .bool false] := by unfold btR; rw [hok]; rfl
    rw [hE]
    rw [hok] at HOK
    clear hE hok
    go_enter Try.func8, Try.ntmps8
    go_wp2_with fail
    try rw [hW0]
    clear hW0
    refine HOK.out.mono ?_; rintro e w1 ⟨rfl, hb1⟩
    have B1 := hid (btr HB.out hb1)
    clear hb1 c0
    go_wp2
    go_ret2
    exact ⟨rfl, B1.out⟩
  · have hE : btR g nm t b nx L G = .tuple #[.string (btx g nm t b nx L G), .bool true] := by unfold btR; rw [hok]; rfl
    rw [hE]
    rw [hok] at HOK
    have HZ : Hid ((cat (bparts g nm t b nx L G)).size ≤ 1048576) := hid (by rw [bparts_cat]; have := btx_size hok; omega)
    obtain ⟨p1, p2, p3, p4, p5, p6, p7, p8⟩ := bx_txt hok
    obtain ⟨x1, e1, C1⟩ := vt1 g (by omega)
    obtain ⟨x2, e2, z2, C2⟩ := short_i nm (by omega)
    obtain ⟨x3, e3, C3⟩ := vt3 t b nx (by omega) (by omega) (by omega)
    have P6 := hid p6
    have P8 : Hid (∀ y ∈ G, 0 ≤ y ∧ y ≤ 1000000000) := hid (fun y hy => by have := p8 y hy; omega)
    have HN := hid hn
    have HGN := hid hgn
    have HN2 : Hid (mn + gn ≤ 50) := hid (by rw [HL.out] at p5; rw [HG.out] at p7; omega)
    obtain ⟨lm, hlm⟩ : ∃ l, (vi mn :: L.map mt4) = l := ⟨_, rfl⟩
    obtain ⟨lg, hlg⟩ : ∃ l, (vi gn :: G.map vi) = l := ⟨_, rfl⟩
    have HLM : Hid (lm.length = mn + 1) := hid (by rw [← hlm]; simp only [List.length_cons, List.length_map]; rw [HL.out])
    have HLG : Hid (lg.length = gn + 1) := hid (by rw [← hlg]; simp only [List.length_cons, List.length_map]; rw [HG.out])
    have HP : Hid (([x1, x2, x3] ++ lm) ++ lg = bparts g nm t b nx L G) := hid (by rw [← hlm, ← hlg, e1.out, e2.out, e3.out, ← HL.out, ← HG.out]; rfl)
    have CM := hid (fun (W : World) (h : Ms l1 h1 W ma L) => ltMails_any l1 h1 ma mn mc L W HL.out HN.out HX.out h P6.out)
    have CG := hid (fun (W : World) (h : Is l2 h2 W ga G) => ltInts_any l2 h2 ga gn gc G W HG.out HGN.out h P8.out)
    rw [hlm] at CM
    rw [hlg] at CG
    clear hlm hlg
    clear hE hok hn hgn p1 p3 p4 p5 p6 p7 p8 z2
    go_enter Try.func8, Try.ntmps8
    go_wp2_with fail
    try rw [hW0]
    clear hW0
    refine HOK.out.mono ?_; rintro e w1 ⟨rfl, hb1⟩
    replace XB := hid (XB.out.later hb1)
    replace HB := hid (btr HB.out hb1)
    clear hb1 c0 HOK
    have c0 := XB.out.cells
    go_wp2_with fail
    refine (C2.out _).mono ?_; rintro e w2 ⟨rfl, hb2⟩
    replace XB := hid (XB.out.later hb2)
    replace HB := hid (btr HB.out hb2)
    clear hb2 c0 C2
    go_wp2_with fail
    have HSS : Hid (∀ W, Bx W w.heap.size 34 g nm t b nx (.slice ma mn mc) (.slice ga gn gc) → (fun W => (W.cell? ⟨w.heap.size, 0, none⟩ = some (.int .i64 g) ∧ W.cell? ⟨w.heap.size, 1, none⟩ = some (.string nm) ∧ W.cell? ⟨w.heap.size, 2, none⟩ = some (.int .i64 t) ∧ W.cell? ⟨w.heap.size, 3, none⟩ = some (.int .i64 b) ∧ W.cell? ⟨w.heap.size, 4, none⟩ = some (.int .i64 nx) ∧ W.cell? ⟨w.heap.size, 5, none⟩ = some (.slice ma mn mc) ∧ W.cell? ⟨w.heap.size, 6, none⟩ = some (.slice ga gn gc))) W) := hid (fun W h => h.cells)
    refine wp_region_noPanic ?_
    refine wp_region_held_drew (S := (fun W => (W.cell? ⟨w.heap.size, 0, none⟩ = some (.int .i64 g) ∧ W.cell? ⟨w.heap.size, 1, none⟩ = some (.string nm) ∧ W.cell? ⟨w.heap.size, 2, none⟩ = some (.int .i64 t) ∧ W.cell? ⟨w.heap.size, 3, none⟩ = some (.int .i64 b) ∧ W.cell? ⟨w.heap.size, 4, none⟩ = some (.int .i64 nx) ∧ W.cell? ⟨w.heap.size, 5, none⟩ = some (.slice ma mn mc) ∧ W.cell? ⟨w.heap.size, 6, none⟩ = some (.slice ga gn gc)))) (by kernel_rfl) (HSS.out _ XB.out) (fun hHeld => ?_)
    obtain ⟨v0, hv0⟩ : ∃ x, w2.drew = x := ⟨_, rfl⟩
    replace XB := hid (XB.out.later (bdr (bre _)))
    replace HB := hid (btr HB.out (bdr (bre _)))
    rw [hv0] at XB HB hHeld
    rw [hv0]
    clear hv0
    refine tk 0 ?_
    refine tk 1 ?_
    refine tk 4 ?_
    refine tk 5 ?_
    refine tk 6 ?_
    refine tk 7 ?_
    refine tk 8 ?_
    refine tk 9 ?_
    refine tk 10 ?_
    refine tk 11 ?_
    refine tk 12 ?_
    clear hHeld
    refine wpAnyH_ready (rs := [2, 13]) (by kernel_rfl) (by simp) ?_
    refine rc (fun K hK => ?_) (rl (fun K hK => ?_))
    · go_simp
      have hbx := bpush (bre v0) (.cells #[.int .i64 g] 3)
      have J1 : Hid (In1 (v0.alloc (.cells #[.int .i64 g] 3)) v0.heap.size g) := hid (heap_alloc_new v0 _)
      replace XB := hid (XB.out.later hbx)
      replace HB := hid (btr HB.out hbx)
      obtain ⟨v1, hv1⟩ : ∃ x, v0.alloc (.cells #[.int .i64 g] 3) = x := ⟨_, rfl⟩
      obtain ⟨k1, hk1⟩ : ∃ x, v0.heap.size = x := ⟨_, rfl⟩
      rw [hv1] at XB HB J1 
      rw [hk1] at J1
      rw [hv1, hk1]
      clear hbx hv1 hk1
      refine hK.out _ _ (HSS.out _ XB.out) (fun hHeld => ?_)
      clear hK K hHeld
      try simp only [Act.put, List.setIfInBounds_toArray, List.set_cons_zero, List.set_cons_succ]
      refine wpAnyH_ready (rs := [3, 13]) (by kernel_rfl) (by simp) ?_
      refine rc (fun K hK => ?_) (rl (fun K hK => ?_))
      · go_simp
        refine (C1.out _ _ J1.out).mono ?_; rintro e v2 ⟨rfl, hbx⟩
        replace XB := hid (XB.out.later hbx)
        replace HB := hid (btr HB.out hbx)
        replace J1 := hid (J1.out.later hbx)
        clear hbx
        go_wp2_with fail
        refine hK.out _ _ (HSS.out _ XB.out) (fun hHeld => ?_)
        clear hK K hHeld
        try simp only [Act.put, List.setIfInBounds_toArray, List.set_cons_zero, List.set_cons_succ]
        refine ry 13 (fun K hK => ?_)
        go_simp
        have hbx := bpush (bre v2) (.cells #[.int .i64 t, .int .i64 b, .int .i64 nx] 3)
        have J3 : Hid (In3 (v2.alloc (.cells #[.int .i64 t, .int .i64 b, .int .i64 nx] 3)) v2.heap.size t b nx) := hid (heap_alloc_new v2 _)
        replace XB := hid (XB.out.later hbx)
        replace HB := hid (btr HB.out hbx)
        replace J1 := hid (J1.out.later hbx)
        obtain ⟨v3, hv3⟩ : ∃ x, v2.alloc (.cells #[.int .i64 t, .int .i64 b, .int .i64 nx] 3) = x := ⟨_, rfl⟩
        obtain ⟨k3, hk3⟩ : ∃ x, v2.heap.size = x := ⟨_, rfl⟩
        rw [hv3] at XB HB J3 J1
        rw [hk3] at J3
        rw [hv3, hk3]
        clear hbx hv3 hk3
        refine hK.out _ _ (HSS.out _ XB.out) (fun hHeld => ?_)
        clear hK K hHeld
        try simp only [Act.put, List.setIfInBounds_toArray, List.set_cons_zero, List.set_cons_succ]
        refine ry 14 (fun K hK => ?_)
        go_simp
        refine (C3.out _ _ J3.out).mono ?_; rintro e v4 ⟨rfl, hbx⟩
        replace XB := hid (XB.out.later hbx)
        replace HB := hid (btr HB.out hbx)
        replace J1 := hid (J1.out.later hbx)
        replace J3 := hid (J3.out.later hbx)
        clear hbx
        go_wp2_with fail
        refine hK.out _ _ (HSS.out _ XB.out) (fun hHeld => ?_)
        clear hK K hHeld
        try simp only [Act.put, List.setIfInBounds_toArray, List.set_cons_zero, List.set_cons_succ]
        refine ry 15 (fun K hK => ?_)
        go_simp
        have hbx := bpush (bre v4) (.cells #[.string x1, .string x2, .string x3] 9)
        have hlt := XB.out.lt
        have OO : Hid (OwR (v4.alloc (.cells #[.string x1, .string x2, .string x3] 9)) (w.heap.size + 1) (.slice (some ⟨v4.heap.size, 0, none⟩) 3 3) [x1, x2, x3]) := hid (own_base (ownR_three v4 x1 x2 x3) (by omega))
        replace XB := hid (XB.out.later hbx)
        replace HB := hid (btr HB.out hbx)
        obtain ⟨u0, hu0⟩ : ∃ x, v4.alloc (.cells #[.string x1, .string x2, .string x3] 9) = x := ⟨_, rfl⟩
        obtain ⟨kp, hkp⟩ : ∃ x, v4.heap.size = x := ⟨_, rfl⟩
        rw [hu0] at XB HB OO
        rw [hkp] at OO
        rw [hu0, hkp]
        clear hbx hu0 hkp hlt
        refine hK.out _ _ (HSS.out _ XB.out) (fun hHeld => ?_)
        clear hK K
        try simp only [Act.put, List.setIfInBounds_toArray, List.set_cons_zero, List.set_cons_succ]
        refine tk 16 ?_
        clear hHeld
        refine wpAnyH_done (by kernel_rfl) ?_ _
        refine NoPanic.normal ?_
        have c5 := XB.out.cells
        go_wp2_with fail
        refine (CM.out _ (HM.out.later HB.out)).mono ?_; rintro e u1 ⟨vm, rfl, hom, hbm⟩
        obtain ⟨gm, cm, hvm, hgm, _, hcm⟩ := hom.shape (by rw [HLM.out]; omega)
        subst hvm
        replace XB := hid (XB.out.later hbm)
        replace HB := hid (btr HB.out hbm)
        replace OO := hid (own_later OO.out hbm)
        have HCM := hid hcm
        have hsz := HB.out.size
        have hxl := XB.out.lt
        rw [HLM.out]
        clear hom hbm hgm hcm c5
        go_wp2_with (at_builtin; refine wpList_append_strs u1 rfl (.tmp 32) (.tmp 35) rfl (w.heap.size + 1) _ [x1, x2, x3] lm (by rfl) OO.out gm (mn + 1) cm HLM.out (by rfl) HCM.out (by simp) (by have := HN.out; omega) (by omega) ?_; intro v5 w5 hown5 hb5; have XB5 : Bx w5 w.heap.size 34 g nm t b nx (.slice ma mn mc) (.slice ga gn gc) := (hb5.block _ (by omega)).trans XB.out; have c5 := XB5.cells; have HO5 := hid hown5; have HB5 := hid (HB.out.trans (hb5.mono (by omega))); clear hown5 hb5)
        refine (CG.out _ (HS.out.later HB5.out)).mono ?_; rintro e u2 ⟨vg, rfl, hog, hbg⟩
        obtain ⟨gg, cg, hvg, hgg, _, hcg⟩ := hog.shape (by rw [HLG.out]; omega)
        subst hvg
        replace XB := hid (XB5.later hbg)
        replace HB := hid (btr HB5.out hbg)
        replace OO := hid (own_later HO5.out hbg)
        have HCG := hid hcg
        replace hsz := HB.out.size
        replace hxl := XB.out.lt
        rw [HLG.out]
        clear hog hbg hgg hcg c5 XB5 HB5 HO5
        go_wp2_with (at_builtin; refine wpList_append_strs u2 rfl (.tmp 37) (.tmp 40) rfl (w.heap.size + 1) _ ([x1, x2, x3] ++ lm) lg (by rfl) OO.out gg (gn + 1) cg HLG.out (by rfl) HCG.out (by rw [List.length_append, HLM.out]; have := HN.out; simp; omega) (by have := HGN.out; omega) (by omega) ?_; intro v6 w6 hown6 hb6; rw [HP.out] at hown6; have HB6 := hid (HB.out.trans (hb6.mono (by omega))); obtain ⟨g6, c6, hv6, hg6, _, hc6⟩ := hown6.shape (by rw [bparts_len]; omega); subst hv6; have HC6 := hid hc6; have HG6 := hid hg6; obtain ⟨n6, hn6⟩ : ∃ n, (bparts g nm t b nx L G).length = n := ⟨_, rfl⟩; rw [hn6]; have HN6 := hid hn6; clear hown6 hb6 hc6 hg6 hn6)
        refine (moved_any g6 n6 c6 (bparts g nm t b nx L G) w6 HN6.out (by rw [← HN6.out, bparts_len, HL.out, HG.out]; have h1 := HN2.out; omega) HG6.out HC6.out (bparts_pos g nm t b nx L G) HZ.out).mono ?_; rintro e w7 ⟨rfl, hb7⟩
        have B7 := hid (btr HB6.out hb7)
        rw [bparts_cat]
        obtain ⟨z, hz⟩ : ∃ z, btx g nm t b nx L G = z := ⟨_, rfl⟩
        rw [hz]
        have HZZ := hid hz
        clear hb7 hz
        go_wp2
        go_ret2
        exact ⟨by rw [HZZ.out]; rfl, B7.out⟩
      · go_simp
        have hbx := bpush (bre v1) (.cells #[.int .i64 t, .int .i64 b, .int .i64 nx] 3)
        have J3 : Hid (In3 (v1.alloc (.cells #[.int .i64 t, .int .i64 b, .int .i64 nx] 3)) v1.heap.size t b nx) := hid (heap_alloc_new v1 _)
        replace XB := hid (XB.out.later hbx)
        replace HB := hid (btr HB.out hbx)
        replace J1 := hid (J1.out.later hbx)
        obtain ⟨v6, hv6⟩ : ∃ x, v1.alloc (.cells #[.int .i64 t, .int .i64 b, .int .i64 nx] 3) = x := ⟨_, rfl⟩
        obtain ⟨k3, hk6⟩ : ∃ x, v1.heap.size = x := ⟨_, rfl⟩
        rw [hv6] at XB HB J3 J1
        rw [hk6] at J3
        rw [hv6, hk6]
        clear hbx hv6 hk6
        refine hK.out _ _ (HSS.out _ XB.out) (fun hHeld => ?_)
        clear hK K hHeld
        try simp only [Act.put, List.setIfInBounds_toArray, List.set_cons_zero, List.set_cons_succ]
        refine ry 3 (fun K hK => ?_)
        go_simp
        refine (C1.out _ _ J1.out).mono ?_; rintro e v7 ⟨rfl, hbx⟩
        replace XB := hid (XB.out.later hbx)
        replace HB := hid (btr HB.out hbx)
        replace J1 := hid (J1.out.later hbx)
        replace J3 := hid (J3.out.later hbx)
        clear hbx
        go_wp2_with fail
        refine hK.out _ _ (HSS.out _ XB.out) (fun hHeld => ?_)
        clear hK K hHeld
        try simp only [Act.put, List.setIfInBounds_toArray, List.set_cons_zero, List.set_cons_succ]
        refine ry 14 (fun K hK => ?_)
        go_simp
        refine (C3.out _ _ J3.out).mono ?_; rintro e v8 ⟨rfl, hbx⟩
        replace XB := hid (XB.out.later hbx)
        replace HB := hid (btr HB.out hbx)
        replace J1 := hid (J1.out.later hbx)
        replace J3 := hid (J3.out.later hbx)
        clear hbx
        go_wp2_with fail
        refine hK.out _ _ (HSS.out _ XB.out) (fun hHeld => ?_)
        clear hK K hHeld
        try simp only [Act.put, List.setIfInBounds_toArray, List.set_cons_zero, List.set_cons_succ]
        refine ry 15 (fun K hK => ?_)
        go_simp
        have hbx := bpush (bre v8) (.cells #[.string x1, .string x2, .string x3] 9)
        have hlt := XB.out.lt
        have OO : Hid (OwR (v8.alloc (.cells #[.string x1, .string x2, .string x3] 9)) (w.heap.size + 1) (.slice (some ⟨v8.heap.size, 0, none⟩) 3 3) [x1, x2, x3]) := hid (own_base (ownR_three v8 x1 x2 x3) (by omega))
        replace XB := hid (XB.out.later hbx)
        replace HB := hid (btr HB.out hbx)
        obtain ⟨u0, hu0⟩ : ∃ x, v8.alloc (.cells #[.string x1, .string x2, .string x3] 9) = x := ⟨_, rfl⟩
        obtain ⟨kp, hkp⟩ : ∃ x, v8.heap.size = x := ⟨_, rfl⟩
        rw [hu0] at XB HB OO
        rw [hkp] at OO
        rw [hu0, hkp]
        clear hbx hu0 hkp hlt
        refine hK.out _ _ (HSS.out _ XB.out) (fun hHeld => ?_)
        clear hK K
        try simp only [Act.put, List.setIfInBounds_toArray, List.set_cons_zero, List.set_cons_succ]
        refine tk 16 ?_
        clear hHeld
        refine wpAnyH_done (by kernel_rfl) ?_ _
        refine NoPanic.normal ?_
        have c5 := XB.out.cells
        go_wp2_with fail
        refine (CM.out _ (HM.out.later HB.out)).mono ?_; rintro e u1 ⟨vm, rfl, hom, hbm⟩
        obtain ⟨gm, cm, hvm, hgm, _, hcm⟩ := hom.shape (by rw [HLM.out]; omega)
        subst hvm
        replace XB := hid (XB.out.later hbm)
        replace HB := hid (btr HB.out hbm)
        replace OO := hid (own_later OO.out hbm)
        have HCM := hid hcm
        have hsz := HB.out.size
        have hxl := XB.out.lt
        rw [HLM.out]
        clear hom hbm hgm hcm c5
        go_wp2_with (at_builtin; refine wpList_append_strs u1 rfl (.tmp 32) (.tmp 35) rfl (w.heap.size + 1) _ [x1, x2, x3] lm (by rfl) OO.out gm (mn + 1) cm HLM.out (by rfl) HCM.out (by simp) (by have := HN.out; omega) (by omega) ?_; intro v5 w5 hown5 hb5; have XB5 : Bx w5 w.heap.size 34 g nm t b nx (.slice ma mn mc) (.slice ga gn gc) := (hb5.block _ (by omega)).trans XB.out; have c5 := XB5.cells; have HO5 := hid hown5; have HB5 := hid (HB.out.trans (hb5.mono (by omega))); clear hown5 hb5)
        refine (CG.out _ (HS.out.later HB5.out)).mono ?_; rintro e u2 ⟨vg, rfl, hog, hbg⟩
        obtain ⟨gg, cg, hvg, hgg, _, hcg⟩ := hog.shape (by rw [HLG.out]; omega)
        subst hvg
        replace XB := hid (XB5.later hbg)
        replace HB := hid (btr HB5.out hbg)
        replace OO := hid (own_later HO5.out hbg)
        have HCG := hid hcg
        replace hsz := HB.out.size
        replace hxl := XB.out.lt
        rw [HLG.out]
        clear hog hbg hgg hcg c5 XB5 HB5 HO5
        go_wp2_with (at_builtin; refine wpList_append_strs u2 rfl (.tmp 37) (.tmp 40) rfl (w.heap.size + 1) _ ([x1, x2, x3] ++ lm) lg (by rfl) OO.out gg (gn + 1) cg HLG.out (by rfl) HCG.out (by rw [List.length_append, HLM.out]; have := HN.out; simp; omega) (by have := HGN.out; omega) (by omega) ?_; intro v6 w6 hown6 hb6; rw [HP.out] at hown6; have HB6 := hid (HB.out.trans (hb6.mono (by omega))); obtain ⟨g6, c6, hv6, hg6, _, hc6⟩ := hown6.shape (by rw [bparts_len]; omega); subst hv6; have HC6 := hid hc6; have HG6 := hid hg6; obtain ⟨n6, hn6⟩ : ∃ n, (bparts g nm t b nx L G).length = n := ⟨_, rfl⟩; rw [hn6]; have HN6 := hid hn6; clear hown6 hb6 hc6 hg6 hn6)
        refine (moved_any g6 n6 c6 (bparts g nm t b nx L G) w6 HN6.out (by rw [← HN6.out, bparts_len, HL.out, HG.out]; have h1 := HN2.out; omega) HG6.out HC6.out (bparts_pos g nm t b nx L G) HZ.out).mono ?_; rintro e w7 ⟨rfl, hb7⟩
        have B7 := hid (btr HB6.out hb7)
        rw [bparts_cat]
        obtain ⟨z, hz⟩ : ∃ z, btx g nm t b nx L G = z := ⟨_, rfl⟩
        rw [hz]
        have HZZ := hid hz
        clear hb7 hz
        go_wp2
        go_ret2
        exact ⟨by rw [HZZ.out]; rfl, B7.out⟩
    · go_simp
      have hbx := bpush (bre v0) (.cells #[.int .i64 t, .int .i64 b, .int .i64 nx] 3)
      have J3 : Hid (In3 (v0.alloc (.cells #[.int .i64 t, .int .i64 b, .int .i64 nx] 3)) v0.heap.size t b nx) := hid (heap_alloc_new v0 _)
      replace XB := hid (XB.out.later hbx)
      replace HB := hid (btr HB.out hbx)
      obtain ⟨v10, hv10⟩ : ∃ x, v0.alloc (.cells #[.int .i64 t, .int .i64 b, .int .i64 nx] 3) = x := ⟨_, rfl⟩
      obtain ⟨k3, hk10⟩ : ∃ x, v0.heap.size = x := ⟨_, rfl⟩
      rw [hv10] at XB HB J3 
      rw [hk10] at J3
      rw [hv10, hk10]
      clear hbx hv10 hk10
      refine hK.out _ _ (HSS.out _ XB.out) (fun hHeld => ?_)
      clear hK K hHeld
      try simp only [Act.put, List.setIfInBounds_toArray, List.set_cons_zero, List.set_cons_succ]
      refine ry 2 (fun K hK => ?_)
      go_simp
      have hbx := bpush (bre v10) (.cells #[.int .i64 g] 3)
      have J1 : Hid (In1 (v10.alloc (.cells #[.int .i64 g] 3)) v10.heap.size g) := hid (heap_alloc_new v10 _)
      replace XB := hid (XB.out.later hbx)
      replace HB := hid (btr HB.out hbx)
      replace J3 := hid (J3.out.later hbx)
      obtain ⟨v11, hv11⟩ : ∃ x, v10.alloc (.cells #[.int .i64 g] 3) = x := ⟨_, rfl⟩
      obtain ⟨k1, hk11⟩ : ∃ x, v10.heap.size = x := ⟨_, rfl⟩
      rw [hv11] at XB HB J1 J3
      rw [hk11] at J1
      rw [hv11, hk11]
      clear hbx hv11 hk11
      refine hK.out _ _ (HSS.out _ XB.out) (fun hHeld => ?_)
      clear hK K hHeld
      try simp only [Act.put, List.setIfInBounds_toArray, List.set_cons_zero, List.set_cons_succ]
      refine ry 3 (fun K hK => ?_)
      go_simp
      refine (C1.out _ _ J1.out).mono ?_; rintro e v12 ⟨rfl, hbx⟩
      replace XB := hid (XB.out.later hbx)
      replace HB := hid (btr HB.out hbx)
      replace J3 := hid (J3.out.later hbx)
      replace J1 := hid (J1.out.later hbx)
      clear hbx
      go_wp2_with fail
      refine hK.out _ _ (HSS.out _ XB.out) (fun hHeld => ?_)
      clear hK K hHeld
      try simp only [Act.put, List.setIfInBounds_toArray, List.set_cons_zero, List.set_cons_succ]
      refine ry 14 (fun K hK => ?_)
      go_simp
      refine (C3.out _ _ J3.out).mono ?_; rintro e v13 ⟨rfl, hbx⟩
      replace XB := hid (XB.out.later hbx)
      replace HB := hid (btr HB.out hbx)
      replace J3 := hid (J3.out.later hbx)
      replace J1 := hid (J1.out.later hbx)
      clear hbx
      go_wp2_with fail
      refine hK.out _ _ (HSS.out _ XB.out) (fun hHeld => ?_)
      clear hK K hHeld
      try simp only [Act.put, List.setIfInBounds_toArray, List.set_cons_zero, List.set_cons_succ]
      refine ry 15 (fun K hK => ?_)
      go_simp
      have hbx := bpush (bre v13) (.cells #[.string x1, .string x2, .string x3] 9)
      have hlt := XB.out.lt
      have OO : Hid (OwR (v13.alloc (.cells #[.string x1, .string x2, .string x3] 9)) (w.heap.size + 1) (.slice (some ⟨v13.heap.size, 0, none⟩) 3 3) [x1, x2, x3]) := hid (own_base (ownR_three v13 x1 x2 x3) (by omega))
      replace XB := hid (XB.out.later hbx)
      replace HB := hid (btr HB.out hbx)
      obtain ⟨u0, hu0⟩ : ∃ x, v13.alloc (.cells #[.string x1, .string x2, .string x3] 9) = x := ⟨_, rfl⟩
      obtain ⟨kp, hkp⟩ : ∃ x, v13.heap.size = x := ⟨_, rfl⟩
      rw [hu0] at XB HB OO
      rw [hkp] at OO
      rw [hu0, hkp]
      clear hbx hu0 hkp hlt
      refine hK.out _ _ (HSS.out _ XB.out) (fun hHeld => ?_)
      clear hK K
      try simp only [Act.put, List.setIfInBounds_toArray, List.set_cons_zero, List.set_cons_succ]
      refine tk 16 ?_
      clear hHeld
      refine wpAnyH_done (by kernel_rfl) ?_ _
      refine NoPanic.normal ?_
      have c5 := XB.out.cells
      go_wp2_with fail
      refine (CM.out _ (HM.out.later HB.out)).mono ?_; rintro e u1 ⟨vm, rfl, hom, hbm⟩
      obtain ⟨gm, cm, hvm, hgm, _, hcm⟩ := hom.shape (by rw [HLM.out]; omega)
      subst hvm
      replace XB := hid (XB.out.later hbm)
      replace HB := hid (btr HB.out hbm)
      replace OO := hid (own_later OO.out hbm)
      have HCM := hid hcm
      have hsz := HB.out.size
      have hxl := XB.out.lt
      rw [HLM.out]
      clear hom hbm hgm hcm c5
      go_wp2_with (at_builtin; refine wpList_append_strs u1 rfl (.tmp 32) (.tmp 35) rfl (w.heap.size + 1) _ [x1, x2, x3] lm (by rfl) OO.out gm (mn + 1) cm HLM.out (by rfl) HCM.out (by simp) (by have := HN.out; omega) (by omega) ?_; intro v5 w5 hown5 hb5; have XB5 : Bx w5 w.heap.size 34 g nm t b nx (.slice ma mn mc) (.slice ga gn gc) := (hb5.block _ (by omega)).trans XB.out; have c5 := XB5.cells; have HO5 := hid hown5; have HB5 := hid (HB.out.trans (hb5.mono (by omega))); clear hown5 hb5)
      refine (CG.out _ (HS.out.later HB5.out)).mono ?_; rintro e u2 ⟨vg, rfl, hog, hbg⟩
      obtain ⟨gg, cg, hvg, hgg, _, hcg⟩ := hog.shape (by rw [HLG.out]; omega)
      subst hvg
      replace XB := hid (XB5.later hbg)
      replace HB := hid (btr HB5.out hbg)
      replace OO := hid (own_later HO5.out hbg)
      have HCG := hid hcg
      replace hsz := HB.out.size
      replace hxl := XB.out.lt
      rw [HLG.out]
      clear hog hbg hgg hcg c5 XB5 HB5 HO5
      go_wp2_with (at_builtin; refine wpList_append_strs u2 rfl (.tmp 37) (.tmp 40) rfl (w.heap.size + 1) _ ([x1, x2, x3] ++ lm) lg (by rfl) OO.out gg (gn + 1) cg HLG.out (by rfl) HCG.out (by rw [List.length_append, HLM.out]; have := HN.out; simp; omega) (by have := HGN.out; omega) (by omega) ?_; intro v6 w6 hown6 hb6; rw [HP.out] at hown6; have HB6 := hid (HB.out.trans (hb6.mono (by omega))); obtain ⟨g6, c6, hv6, hg6, _, hc6⟩ := hown6.shape (by rw [bparts_len]; omega); subst hv6; have HC6 := hid hc6; have HG6 := hid hg6; obtain ⟨n6, hn6⟩ : ∃ n, (bparts g nm t b nx L G).length = n := ⟨_, rfl⟩; rw [hn6]; have HN6 := hid hn6; clear hown6 hb6 hc6 hg6 hn6)
      refine (moved_any g6 n6 c6 (bparts g nm t b nx L G) w6 HN6.out (by rw [← HN6.out, bparts_len, HL.out, HG.out]; have h1 := HN2.out; omega) HG6.out HC6.out (bparts_pos g nm t b nx L G) HZ.out).mono ?_; rintro e w7 ⟨rfl, hb7⟩
      have B7 := hid (btr HB6.out hb7)
      rw [bparts_cat]
      obtain ⟨z, hz⟩ : ∃ z, btx g nm t b nx L G = z := ⟨_, rfl⟩
      rw [hz]
      have HZZ := hid hz
      clear hb7 hz
      go_wp2
      go_ret2
      exact ⟨by rw [HZZ.out]; rfl, B7.out⟩
end Go.Proofs.Ytocfggfccbnbhaa

namespace Go.Proofs.Ytocfggfccbnbhaa
open Go.RowKit Go.ChangeMaps
/-- What a box holds is not too great. -/
theorem small {nm : ByteArray} {L : List M4} {gn : Nat} (h : ¬ (1048576 : Int) < ((nm.size + szL L + gn : Nat) : Int)) : nm.size ≤ 1048576 ∧ L.length ≤ 1048576 ∧ gn ≤ 1048576 ∧ Sm L := by
  unfold szL at h
  exact ⟨by omega, by omega, by omega, sm_of (by omega)⟩
/-- What the text of a box is, in letters. -/
theorem btR_k (g : Int) (nm : ByteArray) (t b nx : Int) (L : List M4) (G : List Int) : ∃ (x : ByteArray) (c : Bool), btR g nm t b nx L G = .tuple #[.string x, .bool c] ∧ x.size ≤ 903 ∧ c = bxOk g nm t b nx L G ∧ (c = true → x = btx g nm t b nx L G) := by
  unfold btR
  by_cases h : bxOk g nm t b nx L G = true
  · rw [if_pos h]
    exact ⟨_, _, rfl, btx_size h, h.symm, fun _ => rfl⟩
  · rw [if_neg h]
    exact ⟨_, _, rfl, by decide, by simpa using h, fun h => by cases h⟩
set_option maxHeartbeats 800000 in
set_option maxRecDepth 100000 in
theorem lawBoxText_any (lo hi lo' hi' : Nat) (g : Int) (nm : ByteArray) (t b nx : Int) (ma : Option Addr) (mn mc : Nat) (ga : Option Addr) (gn gc : Nat) (L : List M4) (G : List Int) (w : World) (hnm : (nm.size : Int) ≤ 9223372036854775807) (hl : L.length = mn) (hn : (mn : Int) ≤ 9223372036854775807) (hft : Fit L) (hm : Ms lo hi w ma L) (hgl : G.length = gn) (hgn : (gn : Int) ≤ 9223372036854775807) (hs : Is lo' hi' w ga G) :
    Calls Try.prog 3 #[.agg #[.int .i64 g, .string nm, .int .i64 t, .int .i64 b, .int .i64 nx, .slice ma mn mc, .slice ga gn gc]] w fun e w' => e = .returned (.bool true) ∧ Below w.heap.size w w' := by
  obtain ⟨W0, hW0⟩ : ∃ W0, w.alloc (.cells #[.int .i64 g, .string nm, .int .i64 t, .int .i64 b, .int .i64 nx, .slice ma mn mc, .slice ga gn gc] 27) = W0 := ⟨_, rfl⟩
  have a0 : Bx W0 w.heap.size 27 g nm t b nx (.slice ma mn mc) (.slice ga gn gc) := by subst hW0; exact Bx.new w _ g nm t b nx _ _
  have b0 : Below w.heap.size w W0 := by subst hW0; exact bpush (bre _) _
  have c0 := a0.cells
  have A0 := hid a0
  have B0 := hid b0
  have HM := hid hm
  have HS' := hid hs
  have HF := hid hft
  have HL := hid hl
  have HGL := hid hgl
  have HN := hid hn
  have HGN := hid hgn
  have HNM := hid hnm
  clear a0 b0 hm hs hft hl hgl hn hgn hnm
  go_enter Try.func3, Try.ntmps3
  go_wp2_with fail
  clear hW0
  refine (szBox_any lo hi g nm t b nx ma mn mc ga gn gc L _ HNM.out HL.out HN.out HF.out (HM.out.later B0.out) HGN.out).mono ?_; rintro e w1 ⟨rfl, hb1⟩
  have a1 := A0.out.later hb1
  have A1 := hid a1
  have B1 := hid (btr B0.out hb1)
  have c0 := a1.cells
  clear a1 hb1 A0 B0
  by_cases hbig : (1048576 : Int) < ((nm.size + szL L + gn : Nat) : Int)
  · rw [szr_over hbig]
    clear hbig
    go_wp2
    go_ret
    exact ⟨rfl, B1.out⟩
  obtain ⟨s1, s2, s3, s4⟩ := small hbig
  obtain ⟨q, hq⟩ : ∃ q, szr 1048576 (nm.size + szL L + gn) = q := ⟨_, rfl⟩
  have h0 : ¬ q < 0 := by rw [← hq, szr_fits hbig]; omega
  rw [hq]
  have S2 : Hid (mn ≤ 1048576) := by show _ ≤ _; rw [← HL.out]; exact s2
  have S3 := hid s3
  have S4 := hid s4
  have S1 := hid s1
  obtain ⟨x, ok, hx, -, -, -⟩ := btR_k g nm t b nx L G
  have HX := hid hx
  clear hq hbig s1 s2 s3 s4 hx
  go_wp2_with fail
  refine (toBox_any lo hi lo' hi' g nm t b nx ma mn mc ga gn gc L G _ HL.out S2.out S4.out (HM.out.later B1.out) HGL.out S3.out (HS'.out.later B1.out)).mono ?_; rintro e w2 ⟨km, kg, rfl, how, hb2⟩
  obtain ⟨-, -, r1, r2⟩ := how.reads
  have a1 := A1.out.later hb2
  have A2 := hid a1
  have B2 := hid (btr B1.out hb2)
  have c0 := a1.cells
  have R1 := hid r1
  have R2 := hid r2
  clear a1 hb2 A1 B1 how r1 r2
  go_wp2_with fail
  refine (specBoxText_any _ _ _ _ g nm t b nx (some ⟨km, 0, none⟩) mn mn (some ⟨kg, 0, none⟩) gn gn L G w2 S1.out HL.out S2.out S4.out R1.out HGL.out S3.out R2.out).mono ?_; rintro e w3 ⟨rfl, hb3⟩
  rw [HX.out]
  have a1 := A2.out.later hb3
  have A3 := hid a1
  have B3 := hid (btr B2.out hb3)
  have c0 := a1.cells
  clear a1 hb3 A2 B2 R1 R2
  go_wp2_with fail
  refine (toBox_any lo hi lo' hi' g nm t b nx ma mn mc ga gn gc L G _ HL.out S2.out S4.out (HM.out.later B3.out) HGL.out S3.out (HS'.out.later B3.out)).mono ?_; rintro e w4 ⟨km', kg', rfl, how, hb4⟩
  obtain ⟨-, -, r1, r2⟩ := how.reads
  have a1 := A3.out.later hb4
  have A4 := hid a1
  have B4 := hid (btr B3.out hb4)
  have c0 := a1.cells
  have R1 := hid r1
  have R2 := hid r2
  clear a1 hb4 A3 B3 how r1 r2
  have xx : (!x.toList == x.toList) = false := by simp
  have yy : (!ok == ok) = false := by cases ok <;> rfl
  have zz : (ok != ok) = false := by simp
  go_wp2_with fail
  have b5 : Below w4.heap.size w4 (w4.alloc (.cells #[.int .i64 g, .string nm, .int .i64 t, .int .i64 b, .int .i64 nx, .slice (some ⟨km', 0, none⟩) mn mn, .slice (some ⟨kg', 0, none⟩) gn gn] 34)) := bpush (bre _) _
  refine (implBoxText_any _ _ _ _ g nm t b nx (some ⟨km', 0, none⟩) mn mn (some ⟨kg', 0, none⟩) gn gn L G _ S1.out HL.out S2.out S4.out (R1.out.later b5) HGL.out S3.out (R2.out.later b5)).mono ?_; rintro e w5 ⟨rfl, hb5⟩
  rw [HX.out]
  have X5 := hid ((Bx.new w4 34 g nm t b nx (.slice (some ⟨km', 0, none⟩) mn mn) (.slice (some ⟨kg', 0, none⟩) gn gn)).later hb5)
  have R5 := hid ((R1.out.later b5).later hb5)
  have Q5 := hid ((R2.out.later b5).later hb5)
  have A5 := hid (A4.out.later (btr b5 hb5))
  have B5 := hid (btr (btr B4.out b5) hb5)
  clear b5 hb5 A4 B4 R1 R2 c0
  have HS : Hid (∀ W, Below w5.heap.size w5 W → (W.cell? ⟨w.heap.size, 0, none⟩ = some (.int .i64 g) ∧ W.cell? ⟨w.heap.size, 1, none⟩ = some (.string nm) ∧ W.cell? ⟨w.heap.size, 2, none⟩ = some (.int .i64 t) ∧ W.cell? ⟨w.heap.size, 3, none⟩ = some (.int .i64 b) ∧ W.cell? ⟨w.heap.size, 4, none⟩ = some (.int .i64 nx) ∧ W.cell? ⟨w.heap.size, 5, none⟩ = some (.slice ma mn mc) ∧ W.cell? ⟨w.heap.size, 6, none⟩ = some (.slice ga gn gc)) ∧ (W.cell? ⟨w4.heap.size, 0, none⟩ = some (.int .i64 g) ∧ W.cell? ⟨w4.heap.size, 1, none⟩ = some (.string nm) ∧ W.cell? ⟨w4.heap.size, 2, none⟩ = some (.int .i64 t) ∧ W.cell? ⟨w4.heap.size, 3, none⟩ = some (.int .i64 b) ∧ W.cell? ⟨w4.heap.size, 4, none⟩ = some (.int .i64 nx) ∧ W.cell? ⟨w4.heap.size, 5, none⟩ = some (.slice (some ⟨km', 0, none⟩) mn mn) ∧ W.cell? ⟨w4.heap.size, 6, none⟩ = some (.slice (some ⟨kg', 0, none⟩) gn gn))) :=
    fun W h => ⟨(A5.out.later h).cells, (X5.out.later h).cells⟩
  go_wp2_with fail
  go_region_held3 (fun W => (W.cell? ⟨w.heap.size, 0, none⟩ = some (.int .i64 g) ∧ W.cell? ⟨w.heap.size, 1, none⟩ = some (.string nm) ∧ W.cell? ⟨w.heap.size, 2, none⟩ = some (.int .i64 t) ∧ W.cell? ⟨w.heap.size, 3, none⟩ = some (.int .i64 b) ∧ W.cell? ⟨w.heap.size, 4, none⟩ = some (.int .i64 nx) ∧ W.cell? ⟨w.heap.size, 5, none⟩ = some (.slice ma mn mc) ∧ W.cell? ⟨w.heap.size, 6, none⟩ = some (.slice ga gn gc)) ∧ (W.cell? ⟨w4.heap.size, 0, none⟩ = some (.int .i64 g) ∧ W.cell? ⟨w4.heap.size, 1, none⟩ = some (.string nm) ∧ W.cell? ⟨w4.heap.size, 2, none⟩ = some (.int .i64 t) ∧ W.cell? ⟨w4.heap.size, 3, none⟩ = some (.int .i64 b) ∧ W.cell? ⟨w4.heap.size, 4, none⟩ = some (.int .i64 nx) ∧ W.cell? ⟨w4.heap.size, 5, none⟩ = some (.slice (some ⟨km', 0, none⟩) mn mn) ∧ W.cell? ⟨w4.heap.size, 6, none⟩ = some (.slice (some ⟨kg', 0, none⟩) gn gn)))
    ((refine HS.out _ ?_; repeat (first | exact bdr (bre _) | exact B7.out | exact B6.out | refine btr ?_ (by assumption))))
    ((first
      | (go_at_call 7; refine (toBox_any lo hi lo' hi' g nm t b nx ma mn mc ga gn gc L G _ HL.out S2.out S4.out (HM.out.later (btr B5.out (bdr (bre _)))) HGL.out S3.out (HS'.out.later (btr B5.out (bdr (bre _))))).mono ?_; rintro e w6 ⟨km6, kg6, rfl, how6, hb6⟩; have R6 := hid how6; have B6 : Hid (Below w5.heap.size w5 w6) := btr (bdr (bre _)) hb6)
      | (go_at_call 9; refine (eqBox_any _ _ _ _ _ _ _ _ g nm t b nx _ mn _ _ gn _ _ _ _ _ L G w6 HL.out S2.out S4.out (R5.out.later B6.out) R6.out.reads.2.2.1 HGL.out S3.out (Q5.out.later B6.out) R6.out.reads.2.2.2).mono ?_; rintro e w7 ⟨rfl, hb7⟩; have B7 : Hid (Below w5.heap.size w5 w7) := btr B6.out hb7)))
  go_wp2
  go_ret
  exact ⟨rfl, btr B5.out B7.out⟩
end Go.Proofs.Ytocfggfccbnbhaa

namespace Go.Proofs.Ytocfggfccbnbhaa
open Go.RowKit Go.ChangeMaps
theorem owB_none (W : World) (B : Nat) : OwB W B (.slice none 0 0) (.slice none 0 0) [] [] :=
  ⟨[], rfl, ⟨⟨rfl, .inl ⟨rfl, rfl⟩⟩, (fun y hy => by cases hy), (fun y hy => by cases hy), .nil⟩, ⟨rfl, .inl ⟨rfl, rfl⟩⟩, (fun j h => by cases h), fun y hy => by cases hy⟩
theorem bx_few {g : Int} {nm : ByteArray} {t b nx : Int} {L : List M4} {G : List Int} (h : bxOk g nm t b nx L G = true) : L.length ≤ 1048576 ∧ Sm L ∧ 1 + 3 * fz L ≤ 4194304 ∧ G.length ≤ 1048576 := by
  obtain ⟨-, -, -, -, h5, h6, h7, -⟩ := bx_txt h
  have hm : ∀ m ∈ L, m.2.2.1.length = 3 ∧ m.2.2.2.size ≤ 60 := by
    intro m hm
    have h8 := h6 m hm
    simp only [mlOk, flOk, Bool.and_eq_true, decide_eq_true_eq] at h8
    exact ⟨h8.2.2.1.1, by have := h8.2.2.2; omega⟩
  have hz : ∀ T : List M4, (∀ m ∈ T, m.2.2.1.length = 3) → fz T = 4 * T.length := by
    intro T
    induction T with
    | nil => intro _; rfl
    | cons m T ih =>
      intro h
      simp only [fz, List.length_cons, ih (fun x hx => h x (by simp [hx])), h m (by simp)]
      omega
  have h9 := hz L (fun m h => (hm m h).1)
  exact ⟨by omega, fun m h => ⟨by have := (hm m h).1; omega, by have := (hm m h).2; omega⟩, by omega, by omega⟩
/-- What comes of reading a box, in letters. -/
theorem pairRb (s : ByteArray) (pl : Int) (hs : s.size ≤ 1048576) :
    ∃ (p : Bool) (pr g : Int) (nm : ByteArray) (t b ny : Int) (K : List M4) (H : List Int) (N M : Nat), (K.length = N ∧ N ≤ 1048576 ∧ Sm K ∧ 1 + 3 * fz K ≤ 4194304) ∧ (H.length = M ∧ M ≤ 1048576) ∧ Hid (∀ (w : World), Calls Try.prog 10 #[.string s, .int .i64 pl] w fun e w' => ∃ a c a' c', e = .returned (.tuple #[.agg #[.int .i64 g, .string nm, .int .i64 t, .int .i64 b, .int .i64 ny, .slice a N c, .slice a' M c'], .int .i64 pr, .bool p]) ∧ OwB w' w.heap.size (.slice a N c) (.slice a' M c') K H ∧ Below w.heap.size w w') ∧ Hid (∀ (w : World), Calls Try.prog 11 #[.string s, .int .i64 pl] w fun e w' => ∃ a c a' c', e = .returned (.tuple #[.agg #[.int .i64 g, .string nm, .int .i64 t, .int .i64 b, .int .i64 ny, .slice a N c, .slice a' M c'], .int .i64 pr, .bool p]) ∧ OwB w' w.heap.size (.slice a N c) (.slice a' M c') K H ∧ Below w.heap.size w w') := by
  have key : ∃ (p : Bool) (pr g : Int) (nm : ByteArray) (t b ny : Int) (K : List M4) (H : List Int), (K.length ≤ 1048576 ∧ Sm K ∧ 1 + 3 * fz K ≤ 4194304) ∧ H.length ≤ 1048576 ∧ ∀ w e w', RbPost s pl w e w' → ∃ a c a' c', e = .returned (.tuple #[.agg #[.int .i64 g, .string nm, .int .i64 t, .int .i64 b, .int .i64 ny, .slice a K.length c, .slice a' H.length c'], .int .i64 pr, .bool p]) ∧ OwB w' w.heap.size (.slice a K.length c) (.slice a' H.length c') K H ∧ Below w.heap.size w w' := by
    cases hr : rbx s pl with
    | none =>
      refine ⟨false, 0, 0, ⟨#[]⟩, 0, 0, 0, [], [], ⟨by simp, (fun x hx => by cases hx), by decide⟩, by simp, fun w e w' hp => ?_⟩
      rcases hp with ⟨-, rfl, hb⟩ | ⟨g, nm, t, b, nx, L, G, c, mv, gv, h1, -⟩
      · exact ⟨none, 0, none, 0, rfl, owB_none _ _, hb⟩
      · rw [hr] at h1; cases h1
    | some r =>
      obtain ⟨⟨g, nm, t, b, nx, L, G⟩, c⟩ := r
      by_cases hok : bxOk g nm t b nx L G = true
      · obtain ⟨s1, s2, s3, s4⟩ := bx_few hok
        refine ⟨true, c, g, nm, t, b, nx, L, G, ⟨s1, s2, s3⟩, s4, fun w e w' hp => ?_⟩
        rcases hp with ⟨h1, -⟩ | ⟨g', nm', t', b', nx', L', G', c', mv, gv, h1, -, rfl, ho, hb⟩
        · rw [hr] at h1; cases h1
        · rw [hr] at h1
          simp only [Option.some.injEq, Prod.mk.injEq] at h1
          obtain ⟨⟨rfl, rfl, rfl, rfl, rfl, rfl, rfl⟩, rfl⟩ := h1
          obtain ⟨Z, hZ, h2, h3, h4⟩ := ho
          obtain ⟨a, c, hv⟩ := h2.shape
          obtain ⟨a', c', hv', _⟩ := h3.shape
          have hlen := congrArg List.length hZ
          rw [List.length_map] at hlen
          rw [hlen] at hv
          subst hv
          subst hv'
          exact ⟨a, c, a', c', rfl, ⟨Z, hZ, h2, h3, h4⟩, hb⟩
      · refine ⟨false, 0, 0, ⟨#[]⟩, 0, 0, 0, [], [], ⟨by simp, (fun x hx => by cases hx), by decide⟩, by simp, fun w e w' hp => ?_⟩
        rcases hp with ⟨h1, -⟩ | ⟨g', nm', t', b', nx', L', G', c', mv, gv, h1, h2, -⟩
        · rw [hr] at h1; cases h1
        · rw [hr] at h1
          simp only [Option.some.injEq, Prod.mk.injEq] at h1
          obtain ⟨⟨rfl, rfl, rfl, rfl, rfl, rfl, rfl⟩, rfl⟩ := h1
          exact absurd h2 hok
  obtain ⟨p, pr, g, nm, t, b, ny, K, H, k1, k2, hk⟩ := key
  exact ⟨p, pr, g, nm, t, b, ny, K, H, _, _, ⟨rfl, k1⟩, ⟨rfl, k2⟩, fun w => (specReadBox_any s pl w hs).mono (hk w), fun w => (implReadBox_any s pl w hs).mono (hk w)⟩
set_option maxHeartbeats 8000000 in
set_option maxRecDepth 100000 in
theorem lawReadBox_any (s : ByteArray) (pl : Int) (w : World) (htx : (s.size : Int) ≤ 9223372036854775807) :
    Calls Try.prog 4 #[.string s, .int .i64 pl] w fun e w' => e = .returned (.bool true) ∧ Below w.heap.size w w' := by
  by_cases hbt : (1048576 : Int) < (s.size : Int)
  · go_enter Try.func4, Try.ntmps4
    go_wp2
    go_ret
    exact ⟨rfl, bre _⟩
  obtain ⟨p, pr, g, nm, t, b, ny, K, H, N, M, ⟨k1, k2, k3, k4⟩, ⟨k5, k6⟩, CSP, CIM⟩ := pairRb s pl (by omega)
  have K1 := hid k1
  have K2 := hid k2
  have K3 := hid k3
  have K4 := hid k4
  have K5 := hid k5
  have K6 := hid k6
  clear k1 k2 k3 k4 k5 k6
  have xx : (p != p) = false := by cases p <;> rfl
  have x2 : (pr != pr) = false := by simp
  go_enter Try.func4, Try.ntmps4
  go_wp2_with fail
  refine (CSP.out _).mono ?_; rintro e v3 ⟨av, cv, av', cv', rfl, ho3, hb4⟩
  have hle : w.heap.size ≤ w.heap.size := Nat.le_refl _
  obtain ⟨kv, hkv⟩ : ∃ kv, v3.heap.size = kv := ⟨_, rfl⟩
  obtain ⟨w2, hw2⟩ : ∃ w2, v3.alloc (.cells #[.int .i64 g, .string nm, .int .i64 t, .int .i64 b, .int .i64 ny, .slice av N cv, .slice av' M cv'] 34) = w2 := ⟨_, rfl⟩
  have hv : Ans w w2 kv g nm t b ny (.slice av N cv) (.slice av' M cv') K H := by rw [← hw2, ← hkv]; exact ans_last ho3 hle hb4
  clear ho3 hb4 hle
  obtain ⟨BV, HV, ov, bv, tv, dv⟩ := hv.own
  have Q1 := hid tv
  have Q2 : Hid (kv < w2.heap.size) := hv.box.lt
  have Q7 : Hid (w.heap.size ≤ w2.heap.size) := hv.bel.size
  have V2 := hid hv.box
  have OV2 := hid ov
  have B2 := hid hv.bel
  clear hv ov bv tv dv
  go_wp2_with fail
  clear hw2 hkv
  refine (CIM.out _).mono ?_; rintro e v3 ⟨ag, cg, ag', cg', rfl, ho3, hb4⟩
  have hle : w2.heap.size ≤ w2.heap.size := Nat.le_refl _
  obtain ⟨kg, hkg⟩ : ∃ kg, v3.heap.size = kg := ⟨_, rfl⟩
  obtain ⟨w6, hw6⟩ : ∃ w6, v3.alloc (.cells #[.int .i64 g, .string nm, .int .i64 t, .int .i64 b, .int .i64 ny, .slice ag N cg, .slice ag' M cg'] 34) = w6 := ⟨_, rfl⟩
  have hv : Ans w2 w6 kg g nm t b ny (.slice ag N cg) (.slice ag' M cg') K H := by rw [← hw6, ← hkg]; exact ans_last ho3 hle hb4
  clear ho3 hb4 hle
  obtain ⟨BG, HG, ov, bv, tv, dv⟩ := hv.own
  have Q5 := hid bv
  have Q8 := hid dv
  have Q9 : Hid (w2.heap.size ≤ kg) := hv.le
  have Gb6 := hid hv.box
  have OG6 := hid ov
  have hb := hv.bel
  have B6 := hid (btr B2.out hb)
  have V6 := hid (V2.out.later hb)
  have OV6 := hid (OV2.out.later hb)
  clear hb hv ov bv tv dv B2 V2 OV2
  have e0 := Gb6.out.cells
  have e2 := V6.out.cells
  go_wp2_with fail
  clear hw6 hkg
  refine (eqBox_any _ _ _ _ _ _ _ _ g nm t b ny _ N _ _ M _ _ _ _ _ K H _ K1.out K2.out K3.out OG6.out.b.reads.2.2.1 OV6.out.b.reads.2.2.1 K5.out K6.out OG6.out.b.reads.2.2.2 OV6.out.b.reads.2.2.2).mono ?_; rintro e w7 ⟨rfl, hb⟩
  clear e0 e2
  have B7 := hid (btr B6.out hb)
  have V7 := hid (V6.out.later hb)
  have OV7 := hid (OV6.out.later hb)
  have Gb7 := hid (Gb6.out.later hb)
  have OG7 := hid (OG6.out.later hb)
  clear B6 V6 OV6 Gb6 OG6
  clear hb
  have e0 := Gb7.out.cells
  go_wp2_with fail
  refine (markBox_any BG HG g nm t b ny _ N _ _ M _ K H _ OG7.out K1.out K2.out K3.out K5.out K6.out K4.out).mono ?_; rintro e w12 ⟨rfl, hmk, hc⟩
  have q1 := Q1.out
  have q2 := Q2.out
  have q5 := Q5.out
  have q7 := Q7.out
  have q8 := Q8.out
  have V8 := hid (V7.out.chg hc (by omega))
  have Gb8 := hid (Gb7.out.chg hc (by omega))
  have OV8 := hid (OV7.out.chg hc (by intro j h1 h2; omega))
  have MG8 := hid hmk
  have B8 : Hid (Below w.heap.size w w12) := B7.out.trans (hc.below B7.out.size (by intro j h; omega))
  obtain ⟨qm, hqm⟩ : ∃ qm : Nat, 1 + 3 * fz K + M = qm := ⟨_, rfl⟩
  rw [hqm]
  have HQM := hid hqm
  have hm1 : ¬ ((qm : Nat) : Int) < 0 := by omega
  have hm2 : (((qm : Nat) : Int) != ((qm : Nat) : Int)) = false := by simp
  clear e0 hc hmk q1 q2 q5 q7 q8 hqm V7 Gb7 OV7 OG7 B7
  have e0 := Gb8.out.cells
  go_wp2_with fail
  refine (heldBox_any _ g nm t b ny _ N _ _ M _ K _ MG8.out K1.out K2.out K3.out K6.out K4.out).mono ?_; rintro e w13 ⟨rfl, hb⟩
  rw [HQM.out]
  clear e0
  have B9 := hid (btr B8.out hb)
  have V9 := hid (V8.out.later hb)
  have OV9 := hid (OV8.out.later hb)
  have Gb9 := hid (Gb8.out.later hb)
  have MG9 := hid (MG8.out.later hb)
  clear B8 V8 OV8 Gb8 MG8
  clear hb
  go_wp2_with fail
  refine (CIM.out _).mono ?_; rintro e v3 ⟨ah, ch, ah', ch', rfl, ho3, hb4⟩
  have hle : w13.heap.size ≤ w13.heap.size := Nat.le_refl _
  obtain ⟨kh, hkh⟩ : ∃ kh, v3.heap.size = kh := ⟨_, rfl⟩
  obtain ⟨w14, hw14⟩ : ∃ w14, v3.alloc (.cells #[.int .i64 g, .string nm, .int .i64 t, .int .i64 b, .int .i64 ny, .slice ah N ch, .slice ah' M ch'] 34) = w14 := ⟨_, rfl⟩
  have hv : Ans w13 w14 kh g nm t b ny (.slice ah N ch) (.slice ah' M ch') K H := by rw [← hw14, ← hkh]; exact ans_last ho3 hle hb4
  clear ho3 hb4 hle
  obtain ⟨BH, HH, ov, bv, tv, dv⟩ := hv.own
  have hb := hv.bel
  have B10 := hid (btr B9.out hb)
  have V10 := hid (V9.out.later hb)
  have OV10 := hid (OV9.out.later hb)
  have Gb10 := hid (Gb9.out.later hb)
  have MG10 := hid (MG9.out.later hb)
  clear B9 V9 OV9 Gb9 MG9
  have Hb10 := hid hv.box
  have OH10 := hid ov
  clear hb hv ov bv tv dv
  have e0 := Hb10.out.cells
  have e2 := V10.out.cells
  go_wp2_with fail
  clear hw14 hkh
  refine (eqBox_any _ _ _ _ _ _ _ _ g nm t b ny _ N _ _ M _ _ _ _ _ K H _ K1.out K2.out K3.out OH10.out.b.reads.2.2.1 OV10.out.b.reads.2.2.1 K5.out K6.out OH10.out.b.reads.2.2.2 OV10.out.b.reads.2.2.2).mono ?_; rintro e w15 ⟨rfl, hb⟩
  clear e0 e2
  have B11 := hid (btr B10.out hb)
  have V11 := hid (V10.out.later hb)
  have OV11 := hid (OV10.out.later hb)
  have Gb11 := hid (Gb10.out.later hb)
  have MG11 := hid (MG10.out.later hb)
  clear B10 V10 OV10 Gb10 MG10
  clear hb
  have e0 := Gb11.out.cells
  go_wp2_with fail
  refine (heldBox_any _ g nm t b ny _ N _ _ M _ K _ MG11.out K1.out K2.out K3.out K6.out K4.out).mono ?_; rintro e w16 ⟨rfl, hb⟩
  rw [HQM.out]
  clear e0
  go_wp2
  go_ret
  exact ⟨rfl, btr B11.out hb⟩
end Go.Proofs.Ytocfggfccbnbhaa

namespace Go.Proofs.Ytocfggfccbnbhaa
open Go.ChangeShapes Go.WideShapes Go.ChangeAt Go.RowKit Go.Joins
theorem cellsInt : Try.prog.cellsOf 3 = 1 := by kernel_rfl
theorem cellsSt : Try.prog.cellsOf 23 = 2 := by kernel_rfl
theorem cellsRg : Try.prog.cellsOf 123 = 3 := by kernel_rfl
section
variable {H : Type} {enc : TypeId × Value → H} {w : World} {sp : Nat → Bool} {held : Bool}
set_option maxRecDepth 100000 in
theorem trodSt {fuel : Nat} {cs : List Value} {x : DataW H × List MemPlace} (hc : cs.length = 2) (h : DataW.trod enc Try.prog w 0 sp held fuel 23 cs = some x) :
    ∃ t b : Int, cs = [.int .i64 t, .int .i64 b] ∧ x = (.agg [.lit (.int .i64 t), .lit (.int .i64 b)], []) ∧ (Lit.int .i64 t).wf = true ∧ (Lit.int .i64 b).wf = true := by
  obtain ⟨y0, y1, n, hx, hl, h0, h1⟩ := trod_struct2 Try.underlying23 h
  match cs, hc with
  | [c0, c1], _ =>
    have k0 : DataW.trod enc Try.prog w 0 sp held n 3 [c0] = some y0 := by simpa [cellsInt] using h0
    have k1 : DataW.trod enc Try.prog w 0 sp held n 3 [c1] = some y1 := by simpa [cellsInt] using h1
    obtain ⟨t, e0, rfl, w0⟩ := DataW.trod_int Try.underlying3 k0
    obtain ⟨b, e1, rfl, w1⟩ := DataW.trod_int Try.underlying3 k1
    simp at e0 e1
    subst e0 e1
    exact ⟨t, b, rfl, hx, w0, w1⟩
end
end Go.Proofs.Ytocfggfccbnbhaa

namespace Go.Proofs.Ytocfggfccbnbhaa
open Go.ChangeShapes Go.WideShapes Go.ChangeAt Go.RowKit Go.Joins
section
variable {H : Type} {enc : TypeId × Value → H} {w : World} {spr : Nat → Bool} {held : Bool}
set_option maxRecDepth 100000 in
theorem trodRg {fuel : Nat} {cs : List Value} {y : DataW H × List MemPlace} (hc : cs.length = 3) (hf : DataW.trod enc Try.prog w 0 spr held fuel 123 cs = some y) :
    ∃ x t b : Int, cs = [.int .i64 x, .int .i64 t, .int .i64 b] := by
  match cs, hc with
  | [c0, c1, c2], _ =>
    obtain ⟨y0, y1, n, hx, hl, h0, h1⟩ := trod_struct2 Try.underlying123 hf
    have k0 : DataW.trod enc Try.prog w 0 spr held n 3 [c0] = some y0 := by simpa [cellsInt] using h0
    have k1 : DataW.trod enc Try.prog w 0 spr held n 23 [c1, c2] = some y1 := by simpa [cellsSt] using h1
    obtain ⟨x, e0, rfl, _⟩ := DataW.trod_int Try.underlying3 k0
    obtain ⟨t, b, e, rfl, _, _⟩ := trodSt rfl k1
    simp at e0 e
    obtain ⟨rfl, rfl⟩ := e
    subst e0
    exact ⟨x, t, b, rfl⟩
set_option maxRecDepth 100000 in
theorem addr_at {a : Addr} {u : Value} (h : w.cell? (a.add 0) = some u) : ∃ k o, a = ⟨k, o, none⟩ := by
  obtain ⟨k, o, s⟩ := a
  have hs : s = none := by simpa [Addr.add] using World.cell?_spot h
  exact ⟨k, o, by rw [hs]⟩
end
end Go.Proofs.Ytocfggfccbnbhaa

namespace Go.Proofs.Ytocfggfccbnbhaa
open Go.ChangeShapes Go.WideShapes Go.ChangeAt Go.RowKit Go.Joins
theorem cellsMl : Try.prog.cellsOf 79 = 4 := by kernel_rfl
theorem cellsRs : Try.prog.cellsOf 77 = 1 := by kernel_rfl
theorem cellsTx : Try.prog.cellsOf 9 = 1 := by kernel_rfl
section
variable {H : Type} {enc : TypeId × Value → H} {w : World} {spr : Nat → Bool} {held : Bool}
set_option maxRecDepth 100000 in
theorem trodRgS {fuel : Nat} {cs : List Value} {y : DataW H × List MemPlace} (hf : DataW.trod enc Try.prog w 0 spr held fuel 77 cs = some y) :
    ∃ (ao : Option Addr) (n cap : Nat) (l : List R3), cs = [.slice ao n cap] ∧ l.length = n ∧ (n : Int) ≤ 9223372036854775807 ∧ Rs w ao l := by
  rcases Go.Deep.open_slice Try.underlying77 hf with ⟨hcs, _⟩ | ⟨a, n, cap, m, nf, D, Pl, hcs, _, hl, hm, hmm, _, hx⟩
  · exact ⟨none, 0, 0, [], hcs, rfl, by decide, Rs.empty _ _⟩
  · have hlm : n ≤ m := by rw [hmm]; split <;> omega
    have hx' : ∀ i, i < n → ∃ r : R3, w.cell? (a.add (i * 3)) = some (.int .i64 r.1) ∧ w.cell? (a.add (i * 3 + 1)) = some (.int .i64 r.2.1) ∧ w.cell? (a.add (i * 3 + 2)) = some (.int .i64 r.2.2) := by
      intro i hi
      obtain ⟨cs, h1, h2⟩ := hx i (by omega)
      rw [cellsRg] at h1
      obtain ⟨_, hlen, hcell⟩ := World.cells?_some h1
      obtain ⟨x, t, b, rfl⟩ := trodRg hlen h2
      have e0 := hcell 0 (by omega)
      have e1 := hcell 1 (by omega)
      have e2 := hcell 2 (by omega)
      simp only [Go.Deep.add_add, Nat.add_zero] at e0 e1 e2
      exact ⟨(x, t, b), by simpa using e0, by simpa using e1, by simpa using e2⟩
    obtain ⟨r, hr⟩ := Go.Deep.choose_lt hx'
    refine ⟨some a, n, cap, (List.range n).map r, hcs, by simp, by unfold maxLen at hm; omega, ?_⟩
    intro hn
    simp at hn
    obtain ⟨k, o, rfl⟩ := addr_at (u := .int .i64 (r 0).1) (by simpa using (hr 0 hn).1)
    refine ⟨k, o, rfl, World.block_lt_of_cell? w (Addr.add ⟨k, o, none⟩ (0 * 3)) (hr 0 hn).1, fun i hi => ?_⟩
    have hi' : i < n := by simpa using hi
    have e := hr i hi'
    simp only [addr_add] at e
    simp only [List.getElem_map, List.getElem_range, Nat.add_assoc]
    exact e
end
end Go.Proofs.Ytocfggfccbnbhaa

