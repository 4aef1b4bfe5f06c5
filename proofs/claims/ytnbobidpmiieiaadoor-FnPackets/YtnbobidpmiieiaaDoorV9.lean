/- K9o, K9p, K9q, K9r, K9t. -/
import Derived.Test.YtnbobidpmiieiaaDoorV8
namespace Go.Proofs.YtnbobidpmiieiaaDoor
open Go.RowKit Go.ChangeMaps
/-- A link as it is drawn: its way reads so, from block B on. -/
def Ld17 (W : World) (B : Nat) (nx wt : Int) (ga : Option Addr) (gn gc : Nat) (G : List ByteArray) : Prop :=
  SlV W B ga gn gc G ∧ gn ≤ 60 ∧ (∀ x ∈ G, x.size ≤ 5) ∧ 1 ≤ nx ∧ nx ≤ 4 ∧ 1 ≤ wt ∧ wt ≤ 4
theorem Ld17.later {W W' : World} {B : Nat} {nx wt : Int} {ga : Option Addr} {gn gc : Nat} {G : List ByteArray} (h : Ld17 W B nx wt ga gn gc G) (hb : Below W.heap.size W W') : Ld17 W' B nx wt ga gn gc G := ⟨h.1.later hb, h.2⟩
theorem lpw_small {G : List ByteArray} {t : ByteArray} (h : ∀ x ∈ G, x.size ≤ 5) (ht : t.size ≤ 5) : ∀ x ∈ lpw G t, x.size ≤ 5 := by
  intro x hx
  unfold lpw at hx
  split at hx
  · rcases List.mem_append.1 hx with hx | hx
    · exact h x hx
    · simp at hx; subst hx; exact ht
  · exact h x hx
set_option maxHeartbeats 3200000 in
set_option maxRecDepth 100000 in
theorem l17Link_any (cb : Nat) (ao : Option Addr) (n cap : Nat) (w : World) (hn : n ≤ 1048576) (hcur : Cur w cb ao n cap) (hcode : Code w cb ao n) :
    Calls Tryd.prog 37 #[.pointer (some ⟨cb, 0, none⟩)] w fun z w' => ∃ (ep nx wt : Int) (ga : Option Addr) (gn gc : Nat) (G : List ByteArray), z = .returned (lkv ep (.slice ga gn gc) nx wt) ∧ Ld17 w' w.heap.size nx wt ga gn gc G ∧ Cur w' cb ao n cap ∧ w.grownBy w' (some cb) := by
  have D := hid (DrS.first hcur hcode)
  have HCB := hid hcur.lt
  clear hcur hcode
  obtain ⟨W0, hW0⟩ : ∃ W0, w.alloc (.cells lk0 34) = W0 := ⟨_, rfl⟩
  have b0 : Below w.heap.size w W0 := by subst hW0; exact bpush (bre _) _
  have R := hid (show Lk W0 w.heap.size 34 0 (.slice none 0 0) 0 0 by subst hW0; exact Lk.new _ _ _ _ _ _)
  replace D := hid (D.out.push b0)
  have HW0 := hid hW0
  clear b0 hW0
  go_enter Tryd.func37, Tryd.ntmps37
  go_wp2_with fail
  rw [HW0.out]
  refine (below4 cb ao n cap _ hn D.out.1 D.out.2.1 3 (by decide) (by decide)).mono ?_; rintro z w1 ⟨ep, _, rfl, hc, hg⟩
  replace R := hid (R.out.grown hg (by have := HCB.out; simp; omega))
  have HRW : Hid (w.heap.size < w1.heap.size) := hid R.out.lt
  replace D := hid (D.out.step hc hg)
  clear hc hg
  go_wp2_with fail
  refine (specLinkNew_any (ep : Int) _).mono ?_; rintro z w2 ⟨rfl, hb⟩
  obtain ⟨w3, hw3⟩ : ∃ W, w2.alloc (.cells #[.int .i64 (ep : Int), .slice none 0 0, .int .i64 1, .int .i64 1] 34) = W := ⟨_, rfl⟩
  have b3 : Below w2.heap.size w2 w3 := by subst hw3; exact bpush (bre _) _
  have L := hid (show Lk w3 w2.heap.size 34 (ep : Int) (.slice none 0 0) 1 1 by subst hw3; exact Lk.new _ _ _ _ _ _)
  replace R := hid ((R.out.later hb).later b3)
  replace D := hid ((D.out.push hb).push b3)
  have HK : Hid (w.heap.size < w2.heap.size ∧ cb < w2.heap.size) := hid ⟨by have h1 := HRW.out; have h2 := hb.size; omega, by have h1 := HCB.out; have h2 := hb.size; have h3 := HRW.out; omega⟩
  clear hb b3
  go_wp2_with fail
  clear hw3
  go_loopw [4] (fun iv W => ∃ (i : Nat) (ga : Option Addr) (gn gc : Nat) (G : List ByteArray), i ≤ 5 ∧ iv = .int .i64 (i : Int) ∧ gn ≤ i ∧ SlV W (w2.heap.size + 1) ga gn gc G ∧ (∀ x ∈ G, x.size ≤ 5) ∧ Lk W w2.heap.size 34 (ep : Int) (.slice ga gn gc) 1 1 ∧ Lk W w.heap.size 34 0 (.slice none 0 0) 0 0 ∧ DrS w W cb ao n cap) (fun iv _ => 5 - (intOf iv).toNat)
  case atStart => exact ⟨0, none, 0, 0, [], Nat.zero_le _, rfl, Nat.zero_le _, ⟨rfl, fun _ => rfl, Nat.le_refl _, fun i hi => absurd hi (Nat.not_lt_zero _), fun q hq => by cases hq⟩, (fun x hx => by cases hx), L.out, R.out, D.out⟩
  case round =>
    clear L R D
    obtain ⟨i, ga, gn, gc, G, hi, rfl, hgi, hsl, hz, hL, hR, hD⟩ := hrel
    have L := hid hL
    have R := hid hR
    have D := hid hD
    have SL := hid hsl
    have HZ := hid hz
    have HGI := hid hgi
    clear hL hR hD hsl hz
    have hib : i ≤ 5 := hi
    go_wp2_with fail
    refine (below4 cb ao n cap _ hn D.out.1 D.out.2.1 5 (by decide) (by decide)).mono ?_; rintro z w4 ⟨m, hm, rfl, hc, hg⟩
    have HM := hid hm
    replace L := hid (L.out.grown hg (by have := HK.out; simp; omega))
    replace R := hid (R.out.grown hg (by have := HCB.out; simp; omega))
    replace SL := hid (SL.out.off hg (fun q hq e => by have h1 := (SL.out.2.2.2.2 q hq).1; have h2 := HK.out; simp at e; omega))
    replace D := hid (D.out.step hc hg)
    clear hc hg hm
    by_cases him : (i : Int) < (m : Int)
    · have HIM : Hid (i < 4) := hid (by have := HM.out; omega)
      go_upto_region 5 with fail
      clear him
      refine wp_region_noPanic ?_
      refine wp_region_held_drew (S := (fun W => True)) (by kernel_rfl) trivial (fun hHeld => ?_)
      obtain ⟨x0, hx0⟩ : ∃ x, w4.drew = x := ⟨_, rfl⟩
      replace L := hid (L.out.later (bdr (bre _)))
      replace R := hid (R.out.later (bdr (bre _)))
      replace SL := hid (SL.out.later (bdr (bre _)))
      replace D := hid (D.out.push (bdr (bre _)))
      rw [hx0] at L R SL D
      rw [hx0]
      clear hx0
      refine tk 1 ?_
      refine wpAnyH_ready (rs := [0, 2]) (by kernel_rfl) (by simp) ?_
      refine rc (fun K hK => ?_) (rl (fun K hK => ?_))
      · have cl := L.out.cells
        go_simp
        clear cl
        refine hK.out _ _ trivial (fun hHeld => ?_)
        clear hK K
        try simp only [Act.put, List.setIfInBounds_toArray, List.set_cons_zero, List.set_cons_succ]
        refine ry 2 (fun K hK => ?_)
        go_simp
        have b5 : Below x0.heap.size x0 (x0.alloc (.cells #[.string ⟨#[111, 110, 101]⟩, .string ⟨#[116, 119, 111]⟩, .string ⟨#[116, 104, 114, 101, 101]⟩] 9)) := bpush (bre _) _
        have TX := hid (three_texts17 x0 ⟨#[111, 110, 101]⟩ ⟨#[116, 119, 111]⟩ ⟨#[116, 104, 114, 101, 101]⟩ 9)
        have HGC : Hid (cb < x0.heap.size) := hid D.out.1.lt
        replace L := hid (L.out.later b5)
        replace R := hid (R.out.later b5)
        replace SL := hid (SL.out.later b5)
        replace D := hid (D.out.push b5)
        obtain ⟨x1, hx1⟩ : ∃ x, x0.alloc (.cells #[.string ⟨#[111, 110, 101]⟩, .string ⟨#[116, 119, 111]⟩, .string ⟨#[116, 104, 114, 101, 101]⟩] 9) = x := ⟨_, rfl⟩
        obtain ⟨kx, hkx⟩ : ∃ x, x0.heap.size = x := ⟨_, rfl⟩
        rw [hx1] at L R SL D TX
        rw [hkx] at TX HGC
        rw [hx1, hkx]
        clear hx1 hkx b5
        refine hK.out _ _ trivial (fun hHeld => ?_)
        clear hK K
        try simp only [Act.put, List.setIfInBounds_toArray, List.set_cons_zero, List.set_cons_succ]
        refine ry 3 (fun K hK => ?_)
        go_simp
        refine (pick_any cb kx 3 5 [⟨#[111, 110, 101]⟩, ⟨#[116, 119, 111]⟩, ⟨#[116, 104, 114, 101, 101]⟩] ao n cap _ hn D.out.1 D.out.2.1 rfl (by decide) (by decide) (by have := HGC.out; omega) (by decide) TX.out).mono ?_; rintro z x2 ⟨t, ht, rfl, hc, hg⟩
        have HT := hid ht
        replace L := hid (L.out.grown hg (by have := HK.out; simp; omega))
        replace R := hid (R.out.grown hg (by have := HCB.out; simp; omega))
        replace SL := hid (SL.out.off hg (fun q hq e => by have h1 := (SL.out.2.2.2.2 q hq).1; have h2 := HK.out; simp at e; omega))
        replace D := hid (D.out.step hc hg)
        clear hc hg ht TX
        refine hK.out _ _ trivial (fun hHeld => ?_)
        clear hK K
        try simp only [Act.put, List.setIfInBounds_toArray, List.set_cons_zero, List.set_cons_succ]
        refine ry 4 (fun K hK => ?_)
        go_simp
        refine (specLinkPut_any _ _ (ep : Int) 1 1 ga gn gc G t x2 SL.out.1 (by have h1 := HGI.out; have h2 := HIM.out; omega) (by have := HT.out; omega) SL.out.ss SL.out.2.1).mono ?_; rintro z x3 ⟨ag, cg, rfl, ho, hb⟩
        have NZ : Hid (∀ x ∈ lpw G t, x.size ≤ 5) := hid (lpw_small HZ.out HT.out)
        have NL : Hid ((lpw G t).length ≤ i + 1) := hid (by have h1 := lpw_len G t; have h2 := HGI.out; have h3 := SL.out.1; omega)
        obtain ⟨G2, hG2⟩ : ∃ x, lpw G t = x := ⟨_, rfl⟩
        rw [hG2] at NZ NL ho
        rw [hG2]
        obtain ⟨g2, hg2⟩ : ∃ x, G2.length = x := ⟨_, rfl⟩
        rw [hg2] at NL ho
        rw [hg2]
        have S3 := hid ((SlV.of ho).base (show w2.heap.size + 1 ≤ x2.heap.size from L.out.lt))
        replace L := hid (L.out.later hb)
        replace R := hid (R.out.later hb)
        replace D := hid (D.out.push hb)
        clear hb ho hG2 hg2
        refine hK.out _ _ trivial (fun hHeld => ?_)
        clear hK K
        try simp only [Act.put, List.setIfInBounds_toArray, List.set_cons_zero, List.set_cons_succ]
        refine tk 5 ?_
        refine tk 6 ?_
        refine tk 7 ?_
        refine ry 8 (fun K hK => ?_)
        have cl := L.out.cells
        have fl := L.out.loose
        go_simp
        clear cl fl
        have g9 := putL_grown x3 w2.heap.size (ep : Int) (.slice ag g2 cg) 1 1
        have l9 := L.out.put (ep : Int) (.slice ag g2 cg) 1 1
        have r9 := R.out.grown g9 (by have := HK.out; simp; omega)
        have s9 := S3.out.off g9 (fun q hq e => by have h1 := (S3.out.2.2.2.2 q hq).1; simp at e; omega)
        have d9 := D.out.put (by have := HK.out; omega) g9
        obtain ⟨x9, hx9⟩ : ∃ x, putL x3 w2.heap.size (ep : Int) (.slice ag g2 cg) 1 1 = x := ⟨_, rfl⟩
        rw [hx9] at l9 r9 s9 d9
        unfold putL at hx9
        rw [hx9]
        have RES := hid (And.intro s9 (And.intro l9 (And.intro r9 d9)))
        clear hx9 g9 l9 r9 s9 d9
        refine hK.out _ _ trivial (fun hHeld => ?_)
        clear hK K
        try simp only [Act.put, List.setIfInBounds_toArray, List.set_cons_zero, List.set_cons_succ]
        refine wpAnyH_done (by kernel_rfl) ?_ _
        refine NoPanic.normal ?_
        have hi4 := HIM.out
        go_wp2
        go_roundw
        case rel => exact ⟨i + 1, ag, g2, cg, G2, by omega, by simp, NL.out, RES.out.1, NZ.out, RES.out.2.1, RES.out.2.2.1, RES.out.2.2.2⟩
        case measure => simp [intOf]; omega
      · go_simp
        have b5 : Below x0.heap.size x0 (x0.alloc (.cells #[.string ⟨#[111, 110, 101]⟩, .string ⟨#[116, 119, 111]⟩, .string ⟨#[116, 104, 114, 101, 101]⟩] 9)) := bpush (bre _) _
        have TX := hid (three_texts17 x0 ⟨#[111, 110, 101]⟩ ⟨#[116, 119, 111]⟩ ⟨#[116, 104, 114, 101, 101]⟩ 9)
        have HGC : Hid (cb < x0.heap.size) := hid D.out.1.lt
        replace L := hid (L.out.later b5)
        replace R := hid (R.out.later b5)
        replace SL := hid (SL.out.later b5)
        replace D := hid (D.out.push b5)
        obtain ⟨x1, hx1⟩ : ∃ x, x0.alloc (.cells #[.string ⟨#[111, 110, 101]⟩, .string ⟨#[116, 119, 111]⟩, .string ⟨#[116, 104, 114, 101, 101]⟩] 9) = x := ⟨_, rfl⟩
        obtain ⟨kx, hkx⟩ : ∃ x, x0.heap.size = x := ⟨_, rfl⟩
        rw [hx1] at L R SL D TX
        rw [hkx] at TX HGC
        rw [hx1, hkx]
        clear hx1 hkx b5
        refine hK.out _ _ trivial (fun hHeld => ?_)
        clear hK K
        try simp only [Act.put, List.setIfInBounds_toArray, List.set_cons_zero, List.set_cons_succ]
        refine wpAnyH_ready (rs := [0, 3]) (by kernel_rfl) (by simp) ?_
        refine rc (fun K hK => ?_) (rl (fun K hK => ?_))
        · have cl := L.out.cells
          go_simp
          clear cl
          refine hK.out _ _ trivial (fun hHeld => ?_)
          clear hK K
          try simp only [Act.put, List.setIfInBounds_toArray, List.set_cons_zero, List.set_cons_succ]
          refine ry 3 (fun K hK => ?_)
          go_simp
          refine (pick_any cb kx 3 5 [⟨#[111, 110, 101]⟩, ⟨#[116, 119, 111]⟩, ⟨#[116, 104, 114, 101, 101]⟩] ao n cap _ hn D.out.1 D.out.2.1 rfl (by decide) (by decide) (by have := HGC.out; omega) (by decide) TX.out).mono ?_; rintro z x2 ⟨t, ht, rfl, hc, hg⟩
          have HT := hid ht
          replace L := hid (L.out.grown hg (by have := HK.out; simp; omega))
          replace R := hid (R.out.grown hg (by have := HCB.out; simp; omega))
          replace SL := hid (SL.out.off hg (fun q hq e => by have h1 := (SL.out.2.2.2.2 q hq).1; have h2 := HK.out; simp at e; omega))
          replace D := hid (D.out.step hc hg)
          clear hc hg ht TX
          refine hK.out _ _ trivial (fun hHeld => ?_)
          clear hK K
          try simp only [Act.put, List.setIfInBounds_toArray, List.set_cons_zero, List.set_cons_succ]
          refine ry 4 (fun K hK => ?_)
          go_simp
          refine (specLinkPut_any _ _ (ep : Int) 1 1 ga gn gc G t x2 SL.out.1 (by have h1 := HGI.out; have h2 := HIM.out; omega) (by have := HT.out; omega) SL.out.ss SL.out.2.1).mono ?_; rintro z x3 ⟨ag, cg, rfl, ho, hb⟩
          have NZ : Hid (∀ x ∈ lpw G t, x.size ≤ 5) := hid (lpw_small HZ.out HT.out)
          have NL : Hid ((lpw G t).length ≤ i + 1) := hid (by have h1 := lpw_len G t; have h2 := HGI.out; have h3 := SL.out.1; omega)
          obtain ⟨G2, hG2⟩ : ∃ x, lpw G t = x := ⟨_, rfl⟩
          rw [hG2] at NZ NL ho
          rw [hG2]
          obtain ⟨g2, hg2⟩ : ∃ x, G2.length = x := ⟨_, rfl⟩
          rw [hg2] at NL ho
          rw [hg2]
          have S3 := hid ((SlV.of ho).base (show w2.heap.size + 1 ≤ x2.heap.size from L.out.lt))
          replace L := hid (L.out.later hb)
          replace R := hid (R.out.later hb)
          replace D := hid (D.out.push hb)
          clear hb ho hG2 hg2
          refine hK.out _ _ trivial (fun hHeld => ?_)
          clear hK K
          try simp only [Act.put, List.setIfInBounds_toArray, List.set_cons_zero, List.set_cons_succ]
          refine tk 5 ?_
          refine tk 6 ?_
          refine tk 7 ?_
          refine ry 8 (fun K hK => ?_)
          have cl := L.out.cells
          have fl := L.out.loose
          go_simp
          clear cl fl
          have g9 := putL_grown x3 w2.heap.size (ep : Int) (.slice ag g2 cg) 1 1
          have l9 := L.out.put (ep : Int) (.slice ag g2 cg) 1 1
          have r9 := R.out.grown g9 (by have := HK.out; simp; omega)
          have s9 := S3.out.off g9 (fun q hq e => by have h1 := (S3.out.2.2.2.2 q hq).1; simp at e; omega)
          have d9 := D.out.put (by have := HK.out; omega) g9
          obtain ⟨x9, hx9⟩ : ∃ x, putL x3 w2.heap.size (ep : Int) (.slice ag g2 cg) 1 1 = x := ⟨_, rfl⟩
          rw [hx9] at l9 r9 s9 d9
          unfold putL at hx9
          rw [hx9]
          have RES := hid (And.intro s9 (And.intro l9 (And.intro r9 d9)))
          clear hx9 g9 l9 r9 s9 d9
          refine hK.out _ _ trivial (fun hHeld => ?_)
          clear hK K
          try simp only [Act.put, List.setIfInBounds_toArray, List.set_cons_zero, List.set_cons_succ]
          refine wpAnyH_done (by kernel_rfl) ?_ _
          refine NoPanic.normal ?_
          have hi4 := HIM.out
          go_wp2
          go_roundw
          case rel => exact ⟨i + 1, ag, g2, cg, G2, by omega, by simp, NL.out, RES.out.1, NZ.out, RES.out.2.1, RES.out.2.2.1, RES.out.2.2.2⟩
          case measure => simp [intOf]; omega
        · go_simp
          refine (pick_any cb kx 3 5 [⟨#[111, 110, 101]⟩, ⟨#[116, 119, 111]⟩, ⟨#[116, 104, 114, 101, 101]⟩] ao n cap _ hn D.out.1 D.out.2.1 rfl (by decide) (by decide) (by have := HGC.out; omega) (by decide) TX.out).mono ?_; rintro z x2 ⟨t, ht, rfl, hc, hg⟩
          have HT := hid ht
          replace L := hid (L.out.grown hg (by have := HK.out; simp; omega))
          replace R := hid (R.out.grown hg (by have := HCB.out; simp; omega))
          replace SL := hid (SL.out.off hg (fun q hq e => by have h1 := (SL.out.2.2.2.2 q hq).1; have h2 := HK.out; simp at e; omega))
          replace D := hid (D.out.step hc hg)
          clear hc hg ht TX
          refine hK.out _ _ trivial (fun hHeld => ?_)
          clear hK K
          try simp only [Act.put, List.setIfInBounds_toArray, List.set_cons_zero, List.set_cons_succ]
          refine ry 0 (fun K hK => ?_)
          have cl := L.out.cells
          go_simp
          clear cl
          refine hK.out _ _ trivial (fun hHeld => ?_)
          clear hK K
          try simp only [Act.put, List.setIfInBounds_toArray, List.set_cons_zero, List.set_cons_succ]
          refine ry 4 (fun K hK => ?_)
          go_simp
          refine (specLinkPut_any _ _ (ep : Int) 1 1 ga gn gc G t x2 SL.out.1 (by have h1 := HGI.out; have h2 := HIM.out; omega) (by have := HT.out; omega) SL.out.ss SL.out.2.1).mono ?_; rintro z x3 ⟨ag, cg, rfl, ho, hb⟩
          have NZ : Hid (∀ x ∈ lpw G t, x.size ≤ 5) := hid (lpw_small HZ.out HT.out)
          have NL : Hid ((lpw G t).length ≤ i + 1) := hid (by have h1 := lpw_len G t; have h2 := HGI.out; have h3 := SL.out.1; omega)
          obtain ⟨G2, hG2⟩ : ∃ x, lpw G t = x := ⟨_, rfl⟩
          rw [hG2] at NZ NL ho
          rw [hG2]
          obtain ⟨g2, hg2⟩ : ∃ x, G2.length = x := ⟨_, rfl⟩
          rw [hg2] at NL ho
          rw [hg2]
          have S3 := hid ((SlV.of ho).base (show w2.heap.size + 1 ≤ x2.heap.size from L.out.lt))
          replace L := hid (L.out.later hb)
          replace R := hid (R.out.later hb)
          replace D := hid (D.out.push hb)
          clear hb ho hG2 hg2
          refine hK.out _ _ trivial (fun hHeld => ?_)
          clear hK K
          try simp only [Act.put, List.setIfInBounds_toArray, List.set_cons_zero, List.set_cons_succ]
          refine tk 5 ?_
          refine tk 6 ?_
          refine tk 7 ?_
          refine ry 8 (fun K hK => ?_)
          have cl := L.out.cells
          have fl := L.out.loose
          go_simp
          clear cl fl
          have g9 := putL_grown x3 w2.heap.size (ep : Int) (.slice ag g2 cg) 1 1
          have l9 := L.out.put (ep : Int) (.slice ag g2 cg) 1 1
          have r9 := R.out.grown g9 (by have := HK.out; simp; omega)
          have s9 := S3.out.off g9 (fun q hq e => by have h1 := (S3.out.2.2.2.2 q hq).1; simp at e; omega)
          have d9 := D.out.put (by have := HK.out; omega) g9
          obtain ⟨x9, hx9⟩ : ∃ x, putL x3 w2.heap.size (ep : Int) (.slice ag g2 cg) 1 1 = x := ⟨_, rfl⟩
          rw [hx9] at l9 r9 s9 d9
          unfold putL at hx9
          rw [hx9]
          have RES := hid (And.intro s9 (And.intro l9 (And.intro r9 d9)))
          clear hx9 g9 l9 r9 s9 d9
          refine hK.out _ _ trivial (fun hHeld => ?_)
          clear hK K
          try simp only [Act.put, List.setIfInBounds_toArray, List.set_cons_zero, List.set_cons_succ]
          refine wpAnyH_done (by kernel_rfl) ?_ _
          refine NoPanic.normal ?_
          have hi4 := HIM.out
          go_wp2
          go_roundw
          case rel => exact ⟨i + 1, ag, g2, cg, G2, by omega, by simp, NL.out, RES.out.1, NZ.out, RES.out.2.1, RES.out.2.2.1, RES.out.2.2.2⟩
          case measure => simp [intOf]; omega
    · have HG60 : Hid (gn ≤ 60) := hid (by have := HGI.out; omega)
      go_wp2_with fail
      refine (below4 cb ao n cap _ hn D.out.1 D.out.2.1 4 (by decide) (by decide)).mono ?_; rintro z w5 ⟨p, hp, rfl, hc, hg⟩
      have HP := hid hp
      replace L := hid (L.out.grown hg (by have := HK.out; simp; omega))
      replace R := hid (R.out.grown hg (by have := HCB.out; simp; omega))
      replace SL := hid (SL.out.off hg (fun q hq e => by have h1 := (SL.out.2.2.2.2 q hq).1; have h2 := HK.out; simp at e; omega))
      replace D := hid (D.out.step hc hg)
      clear hc hg hp him
      obtain ⟨nx, hnx⟩ : ∃ x : Int, (1 : Int) + (p : Int) = x := ⟨_, rfl⟩
      have HNX : Hid (1 ≤ nx ∧ nx ≤ 4) := hid (by have := HP.out; omega)
      have hnb := HNX.out
      have cl := L.out.cells
      have fl := L.out.loose
      go_wp2_with fail
      clear cl fl
      have g6 := wst (wre w5 (some w2.heap.size)) 2 (.int .i64 nx)
      have l6 := L.out.s2 nx
      obtain ⟨w6, hw6⟩ : ∃ W, w5.setCell ⟨w2.heap.size, 2, none⟩ (.int .i64 nx) = W := ⟨_, rfl⟩
      rw [hw6] at g6 l6
      rw [hw6]
      replace R := hid (R.out.grown g6 (by have := HK.out; simp; omega))
      replace SL := hid (SL.out.off g6 (fun q hq e => by have h1 := (SL.out.2.2.2.2 q hq).1; simp at e; omega))
      replace D := hid (D.out.put (by have := HK.out; omega) g6)
      replace L := hid l6
      clear hw6 g6 l6 hnx hnb
      refine (below4 cb ao n cap _ hn D.out.1 D.out.2.1 4 (by decide) (by decide)).mono ?_; rintro z w7 ⟨q, hq, rfl, hc, hg⟩
      have HQ := hid hq
      replace L := hid (L.out.grown hg (by have := HK.out; simp; omega))
      replace R := hid (R.out.grown hg (by have := HCB.out; simp; omega))
      replace SL := hid (SL.out.off hg (fun q hq e => by have h1 := (SL.out.2.2.2.2 q hq).1; have h2 := HK.out; simp at e; omega))
      replace D := hid (D.out.step hc hg)
      clear hc hg hq
      obtain ⟨wt, hwt⟩ : ∃ x : Int, (1 : Int) + (q : Int) = x := ⟨_, rfl⟩
      have HWT : Hid (1 ≤ wt ∧ wt ≤ 4) := hid (by have := HQ.out; omega)
      have hnb := HWT.out
      have cl := L.out.cells
      have fl := L.out.loose
      go_upto_region 8 with fail
      clear cl fl
      have g8 := wst (wre w7 (some w2.heap.size)) 3 (.int .i64 wt)
      have l8 := L.out.s3 wt
      obtain ⟨w8, hw8⟩ : ∃ W, w7.setCell ⟨w2.heap.size, 3, none⟩ (.int .i64 wt) = W := ⟨_, rfl⟩
      rw [hw8] at g8 l8
      rw [hw8]
      replace R := hid (R.out.grown g8 (by have := HK.out; simp; omega))
      replace SL := hid (SL.out.off g8 (fun q hq e => by have h1 := (SL.out.2.2.2.2 q hq).1; simp at e; omega))
      replace D := hid (D.out.put (by have := HK.out; omega) g8)
      replace L := hid l8
      clear hw8 g8 l8 hwt hnb
      have cl := L.out.cells
      have cr := R.out.cells
      have fr := R.out.loose
      go_wp2
      have g9 := putL_grown w8 w.heap.size (ep : Int) (.slice ga gn gc) nx wt
      have d := (R.out.put (ep : Int) (.slice ga gn gc) nx wt).cells
      have D9 := D.out.put (Nat.le_refl _) g9
      have S9 := (SL.out.off g9 (fun q hq e => by have h1 := (SL.out.2.2.2.2 q hq).1; have h2 := HK.out; simp at e; omega)).base (show w.heap.size ≤ w2.heap.size + 1 by have := HK.out; omega)
      unfold putL at d D9 S9
      exact bodyPost_ret (v := lkv (ep : Int) (.slice ga gn gc) nx wt) (by simp [results, Tryd.results37, go_sem, d]) rfl ⟨_, _, _, _, _, _, G, rfl, ⟨S9, HG60.out, HZ.out, HNX.out.1, HNX.out.2, HWT.out.1, HWT.out.2⟩, D9.1, D9.2.2.1⟩
theorem Code.up17 {w w' : World} {cb cb' n : Nat} {ao : Option Addr} (h : Code w cb ao n) (hb : Below w.heap.size w w') (h1 : cb ≤ w.heap.size) (h2 : cb ≤ cb') : Code w' cb' ao n := by
  intro hn
  obtain ⟨b, off, e1, e2, e3⟩ := h hn
  refine ⟨b, off, e1, by omega, fun j hj => ?_⟩
  obtain ⟨z, hz, hc⟩ := e3 j hj
  exact ⟨z, hz, (cell_sameT (p := ⟨b, off + j, none⟩) (hb.block b (by omega))).trans hc⟩
theorem pkR_small (e s a : Int) (t : ByteArray) : ∃ (X : ByteArray) (k : Bool), pkR e s a t = .tuple #[.string X, .bool k] ∧ X.size ≤ 430 := by
  unfold pkR
  split
  · rename_i h
    refine ⟨_, _, rfl, ?_⟩
    have h1 := pkt_size h
    unfold pkS
    rw [ByteArray.size_append, tail4_size]
    omega
  · exact ⟨_, _, rfl, Nat.zero_le _⟩
set_option maxHeartbeats 1600000 in
set_option maxRecDepth 100000 in
theorem drawPacketText_any (ao : Option Addr) (n cap : Nat) (w : World) (hn : n ≤ 1048576) (hcode : Code w w.heap.size ao n) :
    Calls Tryd.prog 5 #[.slice ao n cap] w fun z w' => ∃ (e s a : Int) (t : ByteArray), Pd17 a t ∧ z = .returned (pkv e s a t) ∧ Below w.heap.size w w' := by
  obtain ⟨W0, hW0⟩ : ∃ W0, w.alloc (.cells pk0 25) = W0 := ⟨_, rfl⟩
  have b0 : Below w.heap.size w W0 := by subst hW0; exact bpush (bre _) _
  have R := hid (show Pk W0 w.heap.size 25 0 0 0 ⟨#[]⟩ by subst hW0; exact Pk.new _ _ _ _ _ _)
  have CD := hid (hcode.up17 b0 (Nat.le_refl _) (show w.heap.size ≤ W0.heap.size from b0.size))
  have B := hid b0
  have LW : Hid (w.heap.size < W0.heap.size) := hid R.out.lt
  have HW0 := hid hW0
  clear b0 hW0 hcode
  go_enter Tryd.func5, Tryd.ntmps5
  go_wp2_with fail
  rw [HW0.out]
  refine (new_any ao n cap _ hn CD.out).mono ?_; rintro z w1 ⟨rfl, hc, ho, hb⟩
  have D := hid (DrS.first hc ho)
  replace R := hid (R.out.later hb)
  replace B := hid (btr B.out hb)
  clear hc ho hb
  go_wp2_with fail
  refine (l17Packet_any W0.heap.size ao n cap _ hn D.out.1 D.out.2.1).mono ?_; rintro z w2 ⟨e, s, a, t, hp, rfl, hc, hg⟩
  have HP := hid hp
  have lw := LW.out
  replace R := hid (R.out.grown hg (by simp; omega))
  replace B := hid (B.out.trans (below_of_grown hg (by omega) B.out.size))
  clear hp hc hg lw
  have c := R.out.cells
  have f := R.out.loose
  go_wp2
  have g3 := putP_grown w2 w.heap.size e s a t
  have d := (R.out.put e s a t).cells
  have b3 := B.out.trans (below_of_grown g3 (by omega) B.out.size)
  unfold putP at d b3
  exact bodyPost_ret (v := pkv e s a t) (by simp [results, Tryd.results5, go_sem, d]) rfl ⟨_, _, _, _, HP.out, rfl, b3⟩
set_option maxHeartbeats 1600000 in
set_option maxRecDepth 100000 in
theorem drawReadPacket_any (ao : Option Addr) (n cap : Nat) (w : World) (hn : n ≤ 1048576) (hcode : Code w w.heap.size ao n) :
    Calls Tryd.prog 9 #[.slice ao n cap] w fun z w' => ∃ u : ByteArray, u.size ≤ 1048576 ∧ z = .returned (.string u) ∧ Below w.heap.size w w' := by
  have CD := hid hcode
  clear hcode
  go_enter Tryd.func9, Tryd.ntmps9
  go_wp2_with fail
  refine (new_any ao n cap _ hn CD.out).mono ?_; rintro z w1 ⟨rfl, hc, ho, hb⟩
  have D := hid (DrS.first hc ho)
  have B := hid hb
  clear hc ho hb
  go_wp2_with fail
  refine (below4 w.heap.size ao n cap _ hn D.out.1 D.out.2.1 3 (by decide) (by decide)).mono ?_; rintro z w2 ⟨k, hk, rfl, hc, hg⟩
  replace D := hid (D.out.step hc hg)
  replace B := hid (B.out.trans (below_of_grown hg (Nat.le_refl _) B.out.size))
  clear hc hg
  go_wp2_with fail
  refine (l17Packet_any w.heap.size ao n cap _ hn D.out.1 D.out.2.1).mono ?_; rintro z w3 ⟨e, s, a, t, hp, rfl, hc, hg⟩
  have HP := hid hp
  replace D := hid (D.out.step hc hg)
  replace B := hid (B.out.trans (below_of_grown hg (Nat.le_refl _) B.out.size))
  clear hp hc hg
  obtain ⟨X, kb, hX, hXs⟩ := pkR_small e s a t
  have CS := hid (specPacketText_any e s a t w3 (by have := HP.out.1; omega))
  rw [hX] at CS
  have HXS := hid hXs
  clear hX hXs
  go_wp2_with fail
  refine CS.out.mono ?_; rintro z w4 ⟨rfl, hb⟩
  replace D := hid (D.out.push hb)
  replace B := hid (btr B.out hb)
  clear hb CS
  by_cases hk0 : k = 0
  rotate_left
  · have hk1 : ((k : Int) == 0) = false := beq_eq_false_iff_ne.2 (by omega)
    go_wp2
    go_ret
    exact ⟨X, by have := HXS.out; omega, rfl, B.out⟩
  subst hk0
  have CU := hid (specUnsealedK_any X w4 (by have := HXS.out; omega))
  have HU := hid (unsK_size X)
  obtain ⟨v, hv⟩ : ∃ u, (unsK X).1 = u := ⟨_, rfl⟩
  obtain ⟨vk, hvk⟩ : ∃ u, (unsK X).2 = u := ⟨_, rfl⟩
  rw [hv, hvk] at CU
  rw [hv] at HU
  clear hv hvk hk
  go_wp2_with fail
  refine CU.out.mono ?_; rintro z w5 ⟨rfl, hb⟩
  replace D := hid (D.out.push hb)
  replace B := hid (btr B.out hb)
  clear hb CU
  cases vk with
  | false =>
    go_wp2
    go_ret
    exact ⟨X, by have := HXS.out; omega, rfl, B.out⟩
  | true =>
    go_wp2_with fail
    refine (spoilt_any w.heap.size ao n cap v _ hn (by have := HU.out; omega) D.out.1 D.out.2.1).mono ?_; rintro z w6 ⟨y, hy, rfl, hg⟩
    replace B := hid (B.out.trans (below_of_grown hg (Nat.le_refl _) B.out.size))
    have HY := hid hy
    clear hg hy
    by_cases hz : y.size ≤ 20000
    · have CZ := hid (specSealed_yes y w6 hz)
      have HZ := hid hz
      clear hz
      go_wp2_with fail
      refine CZ.out.mono ?_; rintro z w7 ⟨rfl, hb⟩
      replace B := hid (btr B.out hb)
      obtain ⟨P, hP⟩ : ∃ P, y ++ tail4 y = P := ⟨_, rfl⟩
      have HPS : Hid (P.size ≤ 1048576) := hid (by rw [← hP, ByteArray.size_append, tail4_size]; have := HZ.out; omega)
      rw [hP]
      clear hb hP
      go_wp2
      go_ret
      exact ⟨P, HPS.out, rfl, B.out⟩
    · have CZ := hid (specSealed_no y w6 (by have := HY.out; omega) hz)
      clear hz
      go_wp2_with fail
      refine CZ.out.mono ?_; rintro z w7 ⟨rfl, rfl⟩
      go_wp2
      go_ret
      exact ⟨⟨#[]⟩, Nat.zero_le _, rfl, B.out⟩
set_option maxHeartbeats 1600000 in
set_option maxRecDepth 100000 in
theorem drawLinkPut_any (ao : Option Addr) (n cap : Nat) (w : World) (hn : n ≤ 1048576) (hcode : Code w w.heap.size ao n) :
    Calls Tryd.prog 14 #[.slice ao n cap] w fun z w' => ∃ (ep nx wt : Int) (ga : Option Addr) (gn gc : Nat) (G : List ByteArray) (t : ByteArray), z = .returned (.tuple #[lkv ep (.slice ga gn gc) nx wt, .string t]) ∧ Ld17 w' w.heap.size nx wt ga gn gc G ∧ t.size ≤ 401 ∧ Below w.heap.size w w' := by
  obtain ⟨W0, hW0⟩ : ∃ W0, w.alloc (.cells lk0 34) = W0 := ⟨_, rfl⟩
  have b0 : Below w.heap.size w W0 := by subst hW0; exact bpush (bre _) _
  have R := hid (show Lk W0 w.heap.size 34 0 (.slice none 0 0) 0 0 by subst hW0; exact Lk.new _ _ _ _ _ _)
  have CD := hid (hcode.up17 b0 (Nat.le_refl _) (show w.heap.size ≤ W0.heap.size from b0.size))
  have B := hid b0
  have LW : Hid (w.heap.size < W0.heap.size) := hid R.out.lt
  have HW0 := hid hW0
  clear b0 hW0 hcode
  go_enter Tryd.func14, Tryd.ntmps14
  go_wp2_with fail
  rw [HW0.out]
  refine (new_any ao n cap _ hn CD.out).mono ?_; rintro z w1 ⟨rfl, hc, ho, hb⟩
  have D := hid (DrS.first hc ho)
  replace R := hid (R.out.later hb)
  replace B := hid (btr B.out hb)
  clear hc ho hb CD
  have b8 : Below w1.heap.size w1 (w1.alloc (.cells #[.int .i64 0, .int .i64 1, .int .i64 400, .int .i64 401] 3)) := bpush (bre _) _
  have D8 := hid (D.out.push b8)
  have HF := hid (four_ints17 w1 0 1 400 401 3)
  have HNE : Hid (w1.heap.size ≠ W0.heap.size) := hid (by have := D.out.1.lt; omega)
  go_wp2_with fail
  refine (pickInt_any W0.heap.size w1.heap.size 4 [0, 1, 400, 401] ao n cap _ hn D8.out.1 D8.out.2.1 rfl (by decide) (by decide) HNE.out HF.out).mono ?_; rintro z w2 ⟨x, hx, rfl, hc, hg⟩
  obtain ⟨m, rfl⟩ : ∃ m : Nat, x = (m : Int) := ⟨x.toNat, by simp at hx; omega⟩
  have HM : Hid (m ≤ 401) := hid (by simp at hx; omega)
  replace D := hid (D8.out.step hc hg)
  have lw := LW.out
  replace R := hid ((R.out.later b8).grown hg (by simp; omega))
  replace B := hid ((btr B.out b8).trans (below_of_grown hg (by omega) (btr B.out b8).size))
  clear hc hg hx b8 D8 HF HNE lw
  have hmb := HM.out
  have CL : Hid (∀ W, Calls Tryd.prog 41 #[.int .i64 (m : Int), .int .u8 97] W fun e w' => ∃ bs : List UInt8, bs.length = m ∧ e = .returned (.string ⟨bs.toArray⟩) ∧ Below W.heap.size W w') := hid (fun W => long_any m 97 W (by have := HM.out; omega))
  go_wp2_with fail
  refine (CL.out _).mono ?_; rintro z w3 ⟨bs, hbs, rfl, hb⟩
  obtain ⟨t, ht⟩ : ∃ u : ByteArray, ⟨bs.toArray⟩ = u := ⟨_, rfl⟩
  have HT : Hid (t.size ≤ 401) := hid (by rw [← ht]; show bs.toArray.size ≤ 401; have := HM.out; simp; omega)
  rw [ht]
  replace D := hid (D.out.push hb)
  replace R := hid (R.out.later hb)
  replace B := hid (btr B.out hb)
  clear hb hbs ht hmb CL
  go_wp2_with fail
  refine (l17Link_any W0.heap.size ao n cap _ hn D.out.1 D.out.2.1).mono ?_; rintro z w4 ⟨ep, nx, wt, ga, gn, gc, G, rfl, hL, hc, hg⟩
  have lw := LW.out
  have LW3 : Hid (w.heap.size < W0.heap.size ∧ W0.heap.size < w3.heap.size ∧ w3.heap.size ≤ w4.heap.size) := hid ⟨LW.out, D.out.1.lt, hg.size⟩
  replace D := hid (D.out.step hc hg)
  replace R := hid (R.out.grown hg (by simp; omega))
  replace B := hid (B.out.trans (below_of_grown hg (by omega) B.out.size))
  have HL := hid hL
  clear hL hc hg lw
  obtain ⟨w5, hw5⟩ : ∃ W, w4.alloc (.cells #[.int .i64 ep, .slice ga gn gc, .int .i64 nx, .int .i64 wt] 34) = W := ⟨_, rfl⟩
  have b5 : Below w4.heap.size w4 w5 := by subst hw5; exact bpush (bre _) _
  have L := hid (show Lk w5 w4.heap.size 34 ep (.slice ga gn gc) nx wt by subst hw5; exact Lk.new _ _ _ _ _ _)
  have HK : Hid (w.heap.size < W0.heap.size ∧ W0.heap.size < w3.heap.size ∧ w3.heap.size ≤ w4.heap.size) := LW3
  replace D := hid (D.out.push b5)
  replace R := hid (R.out.later b5)
  replace B := hid (btr B.out b5)
  replace HL := hid (HL.out.later b5)
  clear b5
  go_wp2_with fail
  clear hw5
  refine (once_any W0.heap.size ao n cap _ hn D.out.1 D.out.2.1 8 (by decide) (by decide)).mono ?_; rintro z w6 ⟨tt, rfl, hc, hg⟩
  have lw := LW.out
  have hk := HK.out
  replace L := hid (L.out.grown hg (by simp; omega))
  replace R := hid (R.out.grown hg (by simp; omega))
  replace HL := hid (⟨HL.out.1.off hg (fun q hq e => by have := (HL.out.1.2.2.2.2 q hq).1; simp at e; omega), HL.out.2⟩ : Ld17 w6 w3.heap.size nx wt ga gn gc G)
  replace B := hid (B.out.trans (below_of_grown hg (by omega) B.out.size))
  clear hc hg lw hk D
  cases tt with
  | false =>
    have cl := L.out.cells
    have cr := R.out.cells
    have fr := R.out.loose
    go_wp2
    have hk := HK.out
    have g9 := putL_grown w6 w.heap.size ep (.slice ga gn gc) nx wt
    have d := (R.out.put ep (.slice ga gn gc) nx wt).cells
    have b9 := B.out.trans (below_of_grown g9 (by omega) B.out.size)
    have s9 : Ld17 (putL w6 w.heap.size ep (.slice ga gn gc) nx wt) w.heap.size nx wt ga gn gc G := ⟨(HL.out.1.off g9 (fun q hq e => by have := (HL.out.1.2.2.2.2 q hq).1; simp at e; omega)).base (by omega), HL.out.2⟩
    unfold putL at d b9 s9
    exact bodyPost_ret (v := .tuple #[lkv ep (.slice ga gn gc) nx wt, .string t]) (by simp [results, Tryd.results14, go_sem, d]) rfl ⟨_, _, _, _, _, _, G, _, rfl, s9, HT.out, b9⟩
  | true =>
    obtain ⟨M, hM, hmk0⟩ := make_str 60 (by decide)
    have hmk : ∀ W : World, (Instr.makeSlice 32 (.int .i64 60) (.int .i64 60)).run Tryd.prog W = .ok (.slice (some ⟨W.heap.size, 0, none⟩) 60 60) (W.alloc (.cells M 9)) := hmk0
    clear hmk0
    have cl := (L.out.later (bpush (bre w6) (.cells M 9))).cells
    have fl := (L.out.later (bpush (bre w6) (.cells M 9))).loose
    go_upto_region 6 with fail
    have O7 := hid (SlV.of (hM.out w6))
    have b7 : Below w6.heap.size w6 (w6.alloc (.cells M 9)) := bpush (bre _) _
    have l7 := (L.out.later b7).s1 (.slice (some ⟨w6.heap.size, 0, none⟩) 60 60)
    have g7 := wst (wre (w6.alloc (.cells M 9)) (some w4.heap.size)) 1 (.slice (some ⟨w6.heap.size, 0, none⟩) 60 60)
    have h46 := L.out.lt
    have o7 := (O7.out.off g7 (fun q hq e => by have := (O7.out.2.2.2.2 q hq).1; simp at e; omega)).base (show w3.heap.size ≤ w6.heap.size by have := HK.out; omega)
    have r7 := (R.out.later b7).grown g7 (by have := HK.out; simp; omega)
    have b8 := (btr B.out b7).trans (below_of_grown g7 (by have := HK.out; omega) (btr B.out b7).size)
    obtain ⟨w7, hw7⟩ : ∃ W, (w6.alloc (.cells M 9)).setCell ⟨w4.heap.size, 1, none⟩ (.slice (some ⟨w6.heap.size, 0, none⟩) 60 60) = W := ⟨_, rfl⟩
    rw [hw7] at l7 o7 r7 b8
    rw [hw7]
    obtain ⟨G0, hG0⟩ : ∃ G : List ByteArray, List.replicate 60 ⟨#[]⟩ = G := ⟨_, rfl⟩
    have HZ0 : Hid (∀ x ∈ G0, x.size ≤ 5) := hid (by subst hG0; intro x hx; rw [List.eq_of_mem_replicate hx]; exact Nat.zero_le _)
    rw [hG0] at o7
    replace L := hid l7
    replace R := hid r7
    replace B := hid b8
    have O := hid o7
    have HNW := hid HL.out.2.2.2
    clear hw7 g7 l7 o7 r7 b8 O7 b7 cl fl hM hmk hG0 HL h46
    have cl := L.out.cells
    have cr := R.out.cells
    have fr := R.out.loose
    go_wp2
    have hk := HK.out
    have g9 := putL_grown w7 w.heap.size ep (.slice (some ⟨w6.heap.size, 0, none⟩) 60 60) nx wt
    have d := (R.out.put ep (.slice (some ⟨w6.heap.size, 0, none⟩) 60 60) nx wt).cells
    have b9 := B.out.trans (below_of_grown g9 (by omega) B.out.size)
    have s9 : Ld17 (putL w7 w.heap.size ep (.slice (some ⟨w6.heap.size, 0, none⟩) 60 60) nx wt) w.heap.size nx wt (some ⟨w6.heap.size, 0, none⟩) 60 60 G0 := ⟨(O.out.off g9 (fun q hq e => by have := (O.out.2.2.2.2 q hq).1; simp at e; omega)).base (by omega), by omega, HZ0.out, HNW.out⟩
    unfold putL at d b9 s9
    exact bodyPost_ret (v := .tuple #[lkv ep (.slice (some ⟨w6.heap.size, 0, none⟩) 60 60) nx wt, .string t]) (by simp [results, Tryd.results14, go_sem, d]) rfl ⟨_, _, _, _, _, _, G0, _, rfl, s9, HT.out, b9⟩
set_option maxHeartbeats 3200000 in
set_option maxRecDepth 100000 in
theorem drawLinkHears_any (ao : Option Addr) (n cap : Nat) (w : World) (hn : n ≤ 1048576) (hcode : Code w w.heap.size ao n) :
    Calls Tryd.prog 11 #[.slice ao n cap] w fun z w' => ∃ (ep nx wt : Int) (ga : Option Addr) (gn gc : Nat) (G : List ByteArray) (e s a : Int) (t : ByteArray), z = .returned (.tuple #[lkv ep (.slice ga gn gc) nx wt, pkv e s a t]) ∧ Ld17 w' w.heap.size nx wt ga gn gc G ∧ Pd17 a t ∧ Below w.heap.size w w' := by
  obtain ⟨W0, hW0⟩ : ∃ W0, (w.alloc (.cells lk0 34)).alloc (.cells pk0 25) = W0 := ⟨_, rfl⟩
  have b0 : Below w.heap.size w W0 := by subst hW0; exact bpush (bpush (bre _) _) _
  have R := hid (show Lk W0 w.heap.size 34 0 (.slice none 0 0) 0 0 by subst hW0; exact (Lk.new _ _ _ _ _ _).later (bpush (bre _) _))
  have Q := hid (show Pk W0 (w.heap.size + 1) 25 0 0 0 ⟨#[]⟩ by
    subst hW0
    have h := Pk.new (w.alloc (.cells lk0 34)) 25 0 0 0 ⟨#[]⟩
    simpa using h)
  have CD := hid (hcode.up17 b0 (Nat.le_refl _) (show w.heap.size ≤ W0.heap.size from b0.size))
  have B := hid b0
  have LW : Hid (w.heap.size + 1 < W0.heap.size) := hid Q.out.lt
  have HW0 := hid hW0
  clear b0 hW0 hcode
  go_enter Tryd.func11, Tryd.ntmps11
  go_wp2_with fail
  rw [HW0.out]
  refine (new_any ao n cap _ hn CD.out).mono ?_; rintro z w1 ⟨rfl, hc, ho, hb⟩
  have D := hid (DrS.first hc ho)
  replace R := hid (R.out.later hb)
  replace Q := hid (Q.out.later hb)
  replace B := hid (btr B.out hb)
  clear hc ho hb CD
  go_wp2_with fail
  refine (below4 W0.heap.size ao n cap _ hn D.out.1 D.out.2.1 3 (by decide) (by decide)).mono ?_; rintro z w2 ⟨k, hk, rfl, hc, hg⟩
  have HK3 := hid hk
  have lw := LW.out
  replace D := hid (D.out.step hc hg)
  replace R := hid (R.out.grown hg (by simp; omega))
  replace Q := hid (Q.out.grown hg (by simp; omega))
  replace B := hid (B.out.trans (below_of_grown hg (by omega) B.out.size))
  clear hc hg lw hk
  go_wp2_with fail
  refine (l17Link_any W0.heap.size ao n cap _ hn D.out.1 D.out.2.1).mono ?_; rintro z w3 ⟨ep, nx, wt, ga, gn, gc, G, rfl, hL, hc, hg⟩
  have lw := LW.out
  have LW3 : Hid (w.heap.size + 1 < W0.heap.size ∧ W0.heap.size < w2.heap.size ∧ w2.heap.size ≤ w3.heap.size) := hid ⟨LW.out, D.out.1.lt, hg.size⟩
  replace D := hid (D.out.step hc hg)
  replace R := hid (R.out.grown hg (by simp; omega))
  replace Q := hid (Q.out.grown hg (by simp; omega))
  replace B := hid (B.out.trans (below_of_grown hg (by omega) B.out.size))
  have SL := hid hL.1
  have HLD := hid hL.2
  clear hL hc hg lw
  have HQL : Hid (∀ q, Value.ownBlock (.slice ga gn gc) = some q → q < w3.heap.size) := hid (fun q hq => (SL.out.2.2.2.2 q hq).2)
  obtain ⟨w4, hw4⟩ : ∃ W, w3.alloc (.cells #[.int .i64 ep, .slice ga gn gc, .int .i64 nx, .int .i64 wt] 34) = W := ⟨_, rfl⟩
  have b4 : Below w3.heap.size w3 w4 := by subst hw4; exact bpush (bre _) _
  have L := hid (show Lk w4 w3.heap.size 34 ep (.slice ga gn gc) nx wt by subst hw4; exact Lk.new _ _ _ _ _ _)
  replace D := hid (D.out.push b4)
  replace R := hid (R.out.later b4)
  replace Q := hid (Q.out.later b4)
  replace SL := hid (SL.out.later b4)
  replace B := hid (btr B.out b4)
  clear b4
  go_wp2_with fail
  clear hw4
  refine (l17Packet_any W0.heap.size ao n cap _ hn D.out.1 D.out.2.1).mono ?_; rintro z w5 ⟨e, s, a, t, hp, rfl, hc, hg⟩
  have HP := hid hp
  have lw := LW3.out
  have LW5 : Hid (w3.heap.size < w5.heap.size) := hid (by have h1 := L.out.lt; have h2 := hg.size; omega)
  replace R := hid (R.out.grown hg (by simp; omega))
  replace Q := hid (Q.out.grown hg (by simp; omega))
  replace L := hid (L.out.grown hg (by simp; omega))
  replace SL := hid (SL.out.off hg (fun q hq e => by have := (SL.out.2.2.2.2 q hq).1; simp at e; omega))
  replace B := hid (B.out.trans (below_of_grown hg (by omega) B.out.size))
  clear hp hc hg lw D
  obtain ⟨w6, hw6⟩ : ∃ W, w5.alloc (.cells #[.int .i64 e, .int .i64 s, .int .i64 a, .string t] 25) = W := ⟨_, rfl⟩
  have b6 : Below w5.heap.size w5 w6 := by subst hw6; exact bpush (bre _) _
  have P := hid (show Pk w6 w5.heap.size 25 e s a t by subst hw6; exact Pk.new _ _ _ _ _ _)
  replace R := hid (R.out.later b6)
  replace Q := hid (Q.out.later b6)
  replace L := hid (L.out.later b6)
  replace SL := hid (SL.out.later b6)
  replace B := hid (btr B.out b6)
  clear b6
  have hkb := HK3.out
  have hnb : 1 ≤ nx ∧ nx ≤ 4 := ⟨HLD.out.2.2.1, HLD.out.2.2.2.1⟩
  have cl := L.out.cells
  have cp := P.out.cells
  have fp := P.out.loose
  by_cases hk0 : (0 : Int) < (k : Int)
  · by_cases hk1 : (1 : Int) < (k : Int)
    · go_upto_region 10 with fail
      have g7 := wst (wst (wst (wre w6 (some w5.heap.size)) 0 (.int .i64 ep)) 1 (.int .i64 wt)) 2 (.int .i64 (nx + 1))
      have p7 := ((P.out.s0 ep).s1 wt).s2 (nx + 1)
      obtain ⟨w7, hw7⟩ : ∃ W, ((w6.setCell ⟨w5.heap.size, 0, none⟩ (.int .i64 ep)).setCell ⟨w5.heap.size, 1, none⟩ (.int .i64 wt)).setCell ⟨w5.heap.size, 2, none⟩ (.int .i64 (nx + 1)) = W := ⟨_, rfl⟩
      rw [hw7] at g7 p7
      rw [hw7]
      have hl3 := LW3.out
      have hl5 := LW5.out
      replace R := hid (R.out.grown g7 (by simp; omega))
      replace Q := hid (Q.out.grown g7 (by simp; omega))
      replace L := hid (L.out.grown g7 (by simp; omega))
      replace SL := hid (SL.out.off g7 (fun q hq e => by have := HQL.out q hq; simp at e; omega))
      replace B := hid (B.out.trans (below_of_grown g7 (by omega) B.out.size))
      replace P := hid p7
      clear hw7 hw6 g7 p7 cl cp fp hk0 hk1 hkb hl3 hl5
      have HPD : Hid (Pd17 (nx + 1) t) := hid ⟨HP.out.1, by omega⟩
      refine wp_region_noPanic ?_
      refine wp_region_held_drew (S := (fun W => (W.cell? ⟨w3.heap.size, 0, none⟩ = some (.int .i64 ep) ∧ W.cell? ⟨w3.heap.size, 1, none⟩ = some (.slice ga gn gc) ∧ W.cell? ⟨w3.heap.size, 2, none⟩ = some (.int .i64 nx) ∧ W.cell? ⟨w3.heap.size, 3, none⟩ = some (.int .i64 wt)) ∧ (W.cell? ⟨w5.heap.size, 0, none⟩ = some (.int .i64 ep) ∧ W.cell? ⟨w5.heap.size, 1, none⟩ = some (.int .i64 wt) ∧ W.cell? ⟨w5.heap.size, 2, none⟩ = some (.int .i64 (nx + 1)) ∧ W.cell? ⟨w5.heap.size, 3, none⟩ = some (.string t)))) (by kernel_rfl) ⟨L.out.cells, P.out.cells⟩ (fun hHeld => ?_)
      replace R := hid (R.out.later (bdr (bre _)))
      replace Q := hid (Q.out.later (bdr (bre _)))
      replace L := hid (L.out.later (bdr (bre _)))
      replace P := hid (P.out.later (bdr (bre _)))
      replace SL := hid (SL.out.later (bdr (bre _)))
      replace B := hid (btr B.out (bdr (bre _)))
      obtain ⟨x0, hx0⟩ : ∃ x, w7.drew = x := ⟨_, rfl⟩
      rw [hx0] at R Q L P SL B hHeld
      rw [hx0]
      clear hx0
      refine tk 0 ?_
      refine tk 1 ?_
      clear hHeld
      refine ry 2 (fun K hK => ?_)
      have cr := R.out.cells
      have fr := R.out.loose
      go_simp
      clear cr fr
      have hl3 := LW3.out
      have hl5 := LW5.out
      have g9 := putL_grown x0 w.heap.size ep (.slice ga gn gc) nx wt
      have r9 := R.out.put ep (.slice ga gn gc) nx wt
      obtain ⟨x1, hx1⟩ : ∃ x, putL x0 w.heap.size ep (.slice ga gn gc) nx wt = x := ⟨_, rfl⟩
      rw [hx1] at g9 r9
      unfold putL at hx1
      rw [hx1]
      replace R := hid r9
      replace Q := hid (Q.out.grown g9 (by simp))
      replace L := hid (L.out.grown g9 (by simp; omega))
      replace P := hid (P.out.grown g9 (by simp; omega))
      replace SL := hid (SL.out.off g9 (fun q hq e => by have := (SL.out.2.2.2.2 q hq).1; simp at e; omega))
      replace B := hid (B.out.trans (below_of_grown g9 (by omega) B.out.size))
      clear hx1 g9 r9 hl3 hl5
      refine hK.out _ _ ⟨L.out.cells, P.out.cells⟩ (fun hHeld => ?_)
      clear hK K
      try simp only [Act.put, List.setIfInBounds_toArray, List.set_cons_zero, List.set_cons_succ]
      clear hHeld
      refine ry 3 (fun K hK => ?_)
      have cr := Q.out.cells
      have fr := Q.out.loose
      go_simp
      clear cr fr
      have hl3 := LW3.out
      have hl5 := LW5.out
      have g9 := putP_grown x1 (w.heap.size + 1) ep wt (nx + 1) t
      have r9 := Q.out.put ep wt (nx + 1) t
      obtain ⟨x2, hx2⟩ : ∃ x, putP x1 (w.heap.size + 1) ep wt (nx + 1) t = x := ⟨_, rfl⟩
      rw [hx2] at g9 r9
      unfold putP at hx2
      rw [hx2]
      replace Q := hid r9
      replace R := hid (R.out.grown g9 (by simp))
      replace L := hid (L.out.grown g9 (by simp; omega))
      replace P := hid (P.out.grown g9 (by simp; omega))
      replace SL := hid (SL.out.off g9 (fun q hq e => by have := (SL.out.2.2.2.2 q hq).1; simp at e; omega))
      replace B := hid (B.out.trans (below_of_grown g9 (by omega) B.out.size))
      clear hx2 g9 r9 hl3 hl5
      refine hK.out _ _ ⟨L.out.cells, P.out.cells⟩ (fun hHeld => ?_)
      clear hK K
      try simp only [Act.put, List.setIfInBounds_toArray, List.set_cons_zero, List.set_cons_succ]
      clear hHeld
      refine wpAnyH_done (by kernel_rfl) ?_ _
      refine NoPanic.normal ?_
      go_wp2
      have d1 := R.out.cells
      have d2 := Q.out.cells
      have hl3 := LW3.out
      refine bodyPost_ret (v := .tuple #[lkv ep (.slice ga gn gc) nx wt, pkv ep wt (nx + 1) t]) (by simp [results, Tryd.results11, go_sem, d1, d2]) rfl ⟨_, _, _, _, _, _, G, _, _, _, _, rfl, ⟨SL.out.base (by omega), HLD.out⟩, HPD.out, B.out⟩
    · go_upto_region 10 with fail
      have g7 := wst (wre w6 (some w5.heap.size)) 0 (.int .i64 ep)
      have p7 := P.out.s0 ep
      obtain ⟨w7, hw7⟩ : ∃ W, w6.setCell ⟨w5.heap.size, 0, none⟩ (.int .i64 ep) = W := ⟨_, rfl⟩
      rw [hw7] at g7 p7
      rw [hw7]
      have hl3 := LW3.out
      have hl5 := LW5.out
      replace R := hid (R.out.grown g7 (by simp; omega))
      replace Q := hid (Q.out.grown g7 (by simp; omega))
      replace L := hid (L.out.grown g7 (by simp; omega))
      replace SL := hid (SL.out.off g7 (fun q hq e => by have := HQL.out q hq; simp at e; omega))
      replace B := hid (B.out.trans (below_of_grown g7 (by omega) B.out.size))
      replace P := hid p7
      clear hw7 hw6 g7 p7 cl cp fp hk0 hk1 hkb hl3 hl5
      have HPD : Hid (Pd17 a t) := HP
      refine wp_region_noPanic ?_
      refine wp_region_held_drew (S := (fun W => (W.cell? ⟨w3.heap.size, 0, none⟩ = some (.int .i64 ep) ∧ W.cell? ⟨w3.heap.size, 1, none⟩ = some (.slice ga gn gc) ∧ W.cell? ⟨w3.heap.size, 2, none⟩ = some (.int .i64 nx) ∧ W.cell? ⟨w3.heap.size, 3, none⟩ = some (.int .i64 wt)) ∧ (W.cell? ⟨w5.heap.size, 0, none⟩ = some (.int .i64 ep) ∧ W.cell? ⟨w5.heap.size, 1, none⟩ = some (.int .i64 s) ∧ W.cell? ⟨w5.heap.size, 2, none⟩ = some (.int .i64 a) ∧ W.cell? ⟨w5.heap.size, 3, none⟩ = some (.string t)))) (by kernel_rfl) ⟨L.out.cells, P.out.cells⟩ (fun hHeld => ?_)
      replace R := hid (R.out.later (bdr (bre _)))
      replace Q := hid (Q.out.later (bdr (bre _)))
      replace L := hid (L.out.later (bdr (bre _)))
      replace P := hid (P.out.later (bdr (bre _)))
      replace SL := hid (SL.out.later (bdr (bre _)))
      replace B := hid (btr B.out (bdr (bre _)))
      obtain ⟨x0, hx0⟩ : ∃ x, w7.drew = x := ⟨_, rfl⟩
      rw [hx0] at R Q L P SL B hHeld
      rw [hx0]
      clear hx0
      refine tk 0 ?_
      refine tk 1 ?_
      clear hHeld
      refine ry 2 (fun K hK => ?_)
      have cr := R.out.cells
      have fr := R.out.loose
      go_simp
      clear cr fr
      have hl3 := LW3.out
      have hl5 := LW5.out
      have g9 := putL_grown x0 w.heap.size ep (.slice ga gn gc) nx wt
      have r9 := R.out.put ep (.slice ga gn gc) nx wt
      obtain ⟨x1, hx1⟩ : ∃ x, putL x0 w.heap.size ep (.slice ga gn gc) nx wt = x := ⟨_, rfl⟩
      rw [hx1] at g9 r9
      unfold putL at hx1
      rw [hx1]
      replace R := hid r9
      replace Q := hid (Q.out.grown g9 (by simp))
      replace L := hid (L.out.grown g9 (by simp; omega))
      replace P := hid (P.out.grown g9 (by simp; omega))
      replace SL := hid (SL.out.off g9 (fun q hq e => by have := (SL.out.2.2.2.2 q hq).1; simp at e; omega))
      replace B := hid (B.out.trans (below_of_grown g9 (by omega) B.out.size))
      clear hx1 g9 r9 hl3 hl5
      refine hK.out _ _ ⟨L.out.cells, P.out.cells⟩ (fun hHeld => ?_)
      clear hK K
      try simp only [Act.put, List.setIfInBounds_toArray, List.set_cons_zero, List.set_cons_succ]
      clear hHeld
      refine ry 3 (fun K hK => ?_)
      have cr := Q.out.cells
      have fr := Q.out.loose
      go_simp
      clear cr fr
      have hl3 := LW3.out
      have hl5 := LW5.out
      have g9 := putP_grown x1 (w.heap.size + 1) ep s a t
      have r9 := Q.out.put ep s a t
      obtain ⟨x2, hx2⟩ : ∃ x, putP x1 (w.heap.size + 1) ep s a t = x := ⟨_, rfl⟩
      rw [hx2] at g9 r9
      unfold putP at hx2
      rw [hx2]
      replace Q := hid r9
      replace R := hid (R.out.grown g9 (by simp))
      replace L := hid (L.out.grown g9 (by simp; omega))
      replace P := hid (P.out.grown g9 (by simp; omega))
      replace SL := hid (SL.out.off g9 (fun q hq e => by have := (SL.out.2.2.2.2 q hq).1; simp at e; omega))
      replace B := hid (B.out.trans (below_of_grown g9 (by omega) B.out.size))
      clear hx2 g9 r9 hl3 hl5
      refine hK.out _ _ ⟨L.out.cells, P.out.cells⟩ (fun hHeld => ?_)
      clear hK K
      try simp only [Act.put, List.setIfInBounds_toArray, List.set_cons_zero, List.set_cons_succ]
      clear hHeld
      refine wpAnyH_done (by kernel_rfl) ?_ _
      refine NoPanic.normal ?_
      go_wp2
      have d1 := R.out.cells
      have d2 := Q.out.cells
      have hl3 := LW3.out
      refine bodyPost_ret (v := .tuple #[lkv ep (.slice ga gn gc) nx wt, pkv ep s a t]) (by simp [results, Tryd.results11, go_sem, d1, d2]) rfl ⟨_, _, _, _, _, _, G, _, _, _, _, rfl, ⟨SL.out.base (by omega), HLD.out⟩, HPD.out, B.out⟩
  · have hk1 : ¬ (1 : Int) < (k : Int) := by omega
    go_upto_region 10 with fail
    obtain ⟨w7, rfl⟩ : ∃ W, W = w6 := ⟨w6, rfl⟩
    clear hw6 cl cp fp hk0 hk1 hkb
    have HPD : Hid (Pd17 a t) := HP
    refine wp_region_noPanic ?_
    refine wp_region_held_drew (S := (fun W => (W.cell? ⟨w3.heap.size, 0, none⟩ = some (.int .i64 ep) ∧ W.cell? ⟨w3.heap.size, 1, none⟩ = some (.slice ga gn gc) ∧ W.cell? ⟨w3.heap.size, 2, none⟩ = some (.int .i64 nx) ∧ W.cell? ⟨w3.heap.size, 3, none⟩ = some (.int .i64 wt)) ∧ (W.cell? ⟨w5.heap.size, 0, none⟩ = some (.int .i64 e) ∧ W.cell? ⟨w5.heap.size, 1, none⟩ = some (.int .i64 s) ∧ W.cell? ⟨w5.heap.size, 2, none⟩ = some (.int .i64 a) ∧ W.cell? ⟨w5.heap.size, 3, none⟩ = some (.string t)))) (by kernel_rfl) ⟨L.out.cells, P.out.cells⟩ (fun hHeld => ?_)
    replace R := hid (R.out.later (bdr (bre _)))
    replace Q := hid (Q.out.later (bdr (bre _)))
    replace L := hid (L.out.later (bdr (bre _)))
    replace P := hid (P.out.later (bdr (bre _)))
    replace SL := hid (SL.out.later (bdr (bre _)))
    replace B := hid (btr B.out (bdr (bre _)))
    obtain ⟨x0, hx0⟩ : ∃ x, w7.drew = x := ⟨_, rfl⟩
    rw [hx0] at R Q L P SL B hHeld
    rw [hx0]
    clear hx0
    refine tk 0 ?_
    refine tk 1 ?_
    clear hHeld
    refine ry 2 (fun K hK => ?_)
    have cr := R.out.cells
    have fr := R.out.loose
    go_simp
    clear cr fr
    have hl3 := LW3.out
    have hl5 := LW5.out
    have g9 := putL_grown x0 w.heap.size ep (.slice ga gn gc) nx wt
    have r9 := R.out.put ep (.slice ga gn gc) nx wt
    obtain ⟨x1, hx1⟩ : ∃ x, putL x0 w.heap.size ep (.slice ga gn gc) nx wt = x := ⟨_, rfl⟩
    rw [hx1] at g9 r9
    unfold putL at hx1
    rw [hx1]
    replace R := hid r9
    replace Q := hid (Q.out.grown g9 (by simp))
    replace L := hid (L.out.grown g9 (by simp; omega))
    replace P := hid (P.out.grown g9 (by simp; omega))
    replace SL := hid (SL.out.off g9 (fun q hq e => by have := (SL.out.2.2.2.2 q hq).1; simp at e; omega))
    replace B := hid (B.out.trans (below_of_grown g9 (by omega) B.out.size))
    clear hx1 g9 r9 hl3 hl5
    refine hK.out _ _ ⟨L.out.cells, P.out.cells⟩ (fun hHeld => ?_)
    clear hK K
    try simp only [Act.put, List.setIfInBounds_toArray, List.set_cons_zero, List.set_cons_succ]
    clear hHeld
    refine ry 3 (fun K hK => ?_)
    have cr := Q.out.cells
    have fr := Q.out.loose
    go_simp
    clear cr fr
    have hl3 := LW3.out
    have hl5 := LW5.out
    have g9 := putP_grown x1 (w.heap.size + 1) e s a t
    have r9 := Q.out.put e s a t
    obtain ⟨x2, hx2⟩ : ∃ x, putP x1 (w.heap.size + 1) e s a t = x := ⟨_, rfl⟩
    rw [hx2] at g9 r9
    unfold putP at hx2
    rw [hx2]
    replace Q := hid r9
    replace R := hid (R.out.grown g9 (by simp))
    replace L := hid (L.out.grown g9 (by simp; omega))
    replace P := hid (P.out.grown g9 (by simp; omega))
    replace SL := hid (SL.out.off g9 (fun q hq e => by have := (SL.out.2.2.2.2 q hq).1; simp at e; omega))
    replace B := hid (B.out.trans (below_of_grown g9 (by omega) B.out.size))
    clear hx2 g9 r9 hl3 hl5
    refine hK.out _ _ ⟨L.out.cells, P.out.cells⟩ (fun hHeld => ?_)
    clear hK K
    try simp only [Act.put, List.setIfInBounds_toArray, List.set_cons_zero, List.set_cons_succ]
    clear hHeld
    refine wpAnyH_done (by kernel_rfl) ?_ _
    refine NoPanic.normal ?_
    go_wp2
    have d1 := R.out.cells
    have d2 := Q.out.cells
    have hl3 := LW3.out
    refine bodyPost_ret (v := .tuple #[lkv ep (.slice ga gn gc) nx wt, pkv e s a t]) (by simp [results, Tryd.results11, go_sem, d1, d2]) rfl ⟨_, _, _, _, _, _, G, _, _, _, _, rfl, ⟨SL.out.base (by omega), HLD.out⟩, HPD.out, B.out⟩
theorem eqPk17 (e s a : Int) (t : ByteArray) (W : World) : (binOp .eql 25 (.agg #[.int .i64 e, .int .i64 s, .int .i64 a, .string t]) (.agg #[.int .i64 e, .int .i64 s, .int .i64 a, .string t])).run Tryd.prog W = .ok (.bool true) W := by
  have hS : Tryd.prog.underlying 25 = some (.struct (Tryd.prog.fieldsOf 25)) := by kernel_rfl
  have hp : Tryd.prog.stoodInHeld 25 = false := by kernel_rfl
  rw [run_eql_struct, show (10000 : Nat) = 9999 + 1 from rfl, run_equalIn_agg W 9999 25 _ _ hS hp]
  simp only [Program.fieldsOf, Tryd.underlying25]
  go_simp
set_option maxHeartbeats 800000 in
set_option maxRecDepth 100000 in
theorem sameTx17_any (l1 h1 l2 h2 : Nat) (ao bo : Option Addr) (n ca cb : Nat) (G : List ByteArray) (w : World) (hl : G.length = n) (hn : n ≤ 1048576) (ha : Ss l1 h1 w ao G) (hb : Ss l2 h2 w bo G) :
    Calls Tryd.prog 44 #[.slice ao n ca, .slice bo n cb] w fun e w' => e = .returned (.bool true) ∧ Below w.heap.size w w' := by
  have hnn : ((n : Int) != (n : Int)) = false := by simp
  have HA := hid ha
  have HB := hid hb
  have HL := hid hl
  clear ha hb hl
  go_enter Tryd.func44, Tryd.ntmps44
  go_wp2
  clear hnn
  go_loopw [5] (fun iv wr => ∃ i : Nat, i ≤ n ∧ iv = .int .i64 (i : Int) ∧ Below w.heap.size w wr) (fun iv _ => n - (intOf iv).toNat)
  case atStart => exact ⟨0, Nat.zero_le _, rfl, bre _⟩
  case round =>
    obtain ⟨i, hi, rfl, hb⟩ := hrel
    have HBE := hid hb
    clear hb
    by_cases hlt : i < n
    · have hil : i < G.length := by rw [HL.out]; exact hlt
      obtain ⟨k, o, rfl, hk, c⟩ := (HA.out.later HBE.out).at hil
      obtain ⟨k', o', rfl, hk', d⟩ := (HB.out.later HBE.out).at hil
      obtain ⟨x, hx⟩ : ∃ x, G[i] = x := ⟨_, rfl⟩
      rw [hx] at c d
      clear hx
      have hI : (0 : Int) ≤ (i : Int) ∧ (i : Int) < (n : Int) := by omega
      have hxx : (!x.toList == x.toList) = false := by simp
      go_wp2_with fail
      go_quiet (fail)
      go_wp2
      go_roundw
      case rel => exact ⟨i + 1, by omega, by go_num, bdn HBE.out _⟩
      case measure => simp [intOf]; omega
    · go_wp2
      go_ret
      exact ⟨rfl, HBE.out⟩
set_option maxHeartbeats 800000 in
set_option maxRecDepth 100000 in
theorem sameLink17_any (l1 h1 l2 h2 : Nat) (ep nx wt : Int) (ga ga' : Option Addr) (gn gc gc' : Nat) (G : List ByteArray) (w : World) (hl : G.length = gn) (hn : gn ≤ 1048576) (ha : Ss l1 h1 w ga G) (hb : Ss l2 h2 w ga' G) :
    Calls Tryd.prog 17 #[lkv ep (.slice ga gn gc) nx wt, lkv ep (.slice ga' gn gc') nx wt] w fun e w' => e = .returned (.bool true) ∧ Below w.heap.size w w' := by
  obtain ⟨W0, hW0⟩ : ∃ W0, (w.alloc (.cells #[.int .i64 ep, .slice ga gn gc, .int .i64 nx, .int .i64 wt] 34)).alloc (.cells #[.int .i64 ep, .slice ga' gn gc', .int .i64 nx, .int .i64 wt] 34) = W0 := ⟨_, rfl⟩
  have b0 : Below w.heap.size w W0 := by subst hW0; exact bpush (bpush (bre _) _) _
  have x0 : Lk W0 w.heap.size 34 ep (.slice ga gn gc) nx wt := by subst hW0; exact (Lk.new w _ _ _ _ _).later (bpush (bre _) _)
  have x1 : Lk W0 (w.heap.size + 1) 34 ep (.slice ga' gn gc') nx wt := by
    subst hW0
    have h := Lk.new (w.alloc (.cells #[.int .i64 ep, .slice ga gn gc, .int .i64 nx, .int .i64 wt] 34)) 34 ep (.slice ga' gn gc') nx wt
    simpa using h
  have HC := hid (sameTx17_any l1 h1 l2 h2 ga ga' gn gc gc' G W0 hl hn (ha.later b0) (hb.later b0))
  have B0 := hid b0
  have X0 := hid x0
  have X1 := hid x1
  have c0 := x0.cells
  have c1 := x1.cells
  have HW := hid hW0
  clear x0 x1 b0 ha hb hl hW0
  have e1 : (ep == ep) = true := by simp
  have e2 : (nx == nx) = true := by simp
  have e3 : (wt == wt) = true := by simp
  go_enter Tryd.func17, Tryd.ntmps17
  go_wp2_with fail
  rw [HW.out]
  refine HC.out.mono ?_; rintro e w1 ⟨rfl, hb⟩
  clear c0 c1
  have c0 := (X0.out.later hb).cells
  have c1 := (X1.out.later hb).cells
  have B1 := hid (btr B0.out hb)
  clear hb
  go_wp2
  go_ret
  exact ⟨rfl, B1.out⟩
end Go.Proofs.YtnbobidpmiieiaaDoor
