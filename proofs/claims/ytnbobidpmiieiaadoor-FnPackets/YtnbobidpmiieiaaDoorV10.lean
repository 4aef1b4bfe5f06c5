/- K9u. -/
import Derived.Test.YtnbobidpmiieiaaDoorV9
namespace Go.Proofs.YtnbobidpmiieiaaDoor
open Go.RowKit Go.ChangeMaps
/-- What PacketText answers, in letters. -/
theorem pkR_letters (e s a : Int) (t : ByteArray) : ∃ (X : ByteArray) (k : Bool), pkR e s a t = .tuple #[.string X, .bool k] ∧ (pkOk e s a t = true → k = true ∧ X = pkS e s a t) ∧ (k = true → pkOk e s a t = true ∧ pkS e s a t = X) ∧ (k = false → X.size ≤ 1048576) := by
  unfold pkR
  by_cases h : pkOk e s a t = true
  · rw [if_pos h]; exact ⟨_, _, rfl, fun _ => ⟨rfl, rfl⟩, fun _ => ⟨h, rfl⟩, fun h' => by cases h'⟩
  · rw [if_neg h]; exact ⟨_, _, rfl, fun h' => absurd h' h, (fun h' => by cases h'), fun _ => Nat.zero_le _⟩
theorem tup17 {e s a : Int} {t : ByteArray} {k : Bool} {e' s' a' : Int} {t' : ByteArray} {k' : Bool} (h : Ending.returned (.tuple #[pkv e s a t, .bool k]) = Ending.returned (.tuple #[pkv e' s' a' t', .bool k'])) : e = e' ∧ s = s' ∧ a = a' ∧ t = t' ∧ k = k' := by
  simp only [Ending.returned.injEq, Value.tuple.injEq, pkv] at h
  simp at h
  obtain ⟨⟨h1, h2, h3, h4⟩, h5⟩ := h
  exact ⟨h1, h2, h3, h4, h5⟩
set_option maxHeartbeats 16000000 in
set_option maxRecDepth 100000 in
theorem fnPackets_any (ao : Option Addr) (n cap : Nat) (w : World) (hcode : Code w w.heap.size ao n) (hn : Nib w) :
    Calls Tryd.prog 3 #[.slice ao n cap] w fun e w' => e = .returned (.bool true) ∧ Below w.heap.size w w' := by
  have HO := hid hcode
  have HN := hid hn
  clear hcode hn
  by_cases hbig : n ≤ 1048576
  case neg =>
    go_enter Tryd.func3, Tryd.ntmps3
    go_wp2_with fail
    refine (bigF_yes ao n cap _ hbig).mono ?_; rintro z w' ⟨rfl, h'⟩
    subst h'
    go_wp2_with fail
    go_ret
    exact ⟨rfl, bre _⟩
  have HCD : Hid (∀ W, Below w.heap.size w W → Code W W.heap.size ao n) := hid (fun W hb => HO.out.up17 hb (Nat.le_refl _) hb.size)
  have BE := hid (bre w)
  go_enter Tryd.func3, Tryd.ntmps3
  go_wp2_with fail
  refine (bigF_no ao n cap _ hbig).mono ?_; rintro z w' ⟨rfl, h'⟩
  have h2 := h'.symm
  subst h2
  go_wp2_with fail
  refine (drawPacketText_any ao n cap _ hbig (HCD.out _ BE.out)).mono ?_; rintro z w1 ⟨e, s, a, t, hpd, rfl, hb⟩
  have HPD := hid hpd
  replace BE := hid (btr BE.out hb)
  clear hb hpd
  obtain ⟨w2, hw2⟩ : ∃ W, w1.alloc (.cells #[.int .i64 e, .int .i64 s, .int .i64 a, .string t] 25) = W := ⟨_, rfl⟩
  have bw2 : Below w1.heap.size w1 w2 := by subst hw2; exact bpush (bre _) _
  have P := hid (show Pk w2 w1.heap.size 25 e s a t by subst hw2; exact Pk.new _ _ _ _ _ _)
  replace BE := hid (btr BE.out bw2)
  clear bw2
  obtain ⟨X, k, hX, hX1, hX2, hX3⟩ := pkR_letters e s a t
  have CIP := hid (fun (W : World) (hb : Below w.heap.size w W) => implPacketText_any e s a t W (HN.out.on17 hb))
  have CSP := hid (fun (W : World) => specPacketText_any e s a t W (by have := HPD.out.1; omega))
  rw [hX] at CIP CSP
  have HX2 := hid hX2
  have HXN := hid hX3
  clear hX hX1 hX2 hX3
  have c := P.out.cells
  go_wp2_with fail
  clear hw2 c
  refine (CIP.out _ BE.out).mono ?_; rintro z w3 ⟨rfl, hb⟩
  replace P := hid (P.out.later hb)
  replace BE := hid (btr BE.out hb)
  clear hb CIP
  have c := P.out.cells
  go_wp2_with fail
  clear c
  refine (CSP.out _).mono ?_; rintro z w4 ⟨rfl, hb⟩
  replace P := hid (P.out.later hb)
  replace BE := hid (btr BE.out hb)
  clear hb CSP
  obtain ⟨e1, s1, a1, t1, k1, h1⟩ := rp_pair X
  have HK1 : Hid (k = true → e1 = e ∧ s1 = s ∧ a1 = a ∧ t1 = t ∧ k1 = true) := hid (fun hk => by
    obtain ⟨h3, h4⟩ := HX2.out hk
    obtain ⟨q1, q2, q3, q4, q5⟩ := tup17 (h1 _ (Or.inl ⟨e, s, a, t, h3, h4, rfl⟩))
    exact ⟨q1.symm, q2.symm, q3.symm, q4.symm, q5.symm⟩)
  have HXS : Hid (X.size ≤ 1048576) := hid (by
    cases hk : k with
    | true => obtain ⟨h3, h4⟩ := HX2.out hk; have h5 := pkt_size h3; rw [← h4]; unfold pkS; rw [ByteArray.size_append, tail4_size]; omega
    | false => exact HXN.out hk)
  have CIR := hid (fun (W : World) (hb : Below w.heap.size w W) => (implReadPacket_any X W HXS.out (HN.out.on17 hb)).mono (fun x w' h => (⟨h1 x h.1, h.2⟩ : x = _ ∧ _)))
  clear h1
  go_wp2_with fail
  refine (CIR.out _ BE.out).mono ?_; rintro z w5 ⟨rfl, hb⟩
  replace P := hid (P.out.later hb)
  replace BE := hid (btr BE.out hb)
  clear hb CIR
  obtain ⟨w6, hw6⟩ : ∃ W, w5.alloc (.cells #[.int .i64 e1, .int .i64 s1, .int .i64 a1, .string t1] 25) = W := ⟨_, rfl⟩
  have bw6 : Below w5.heap.size w5 w6 := by subst hw6; exact bpush (bre _) _
  have P1 := hid (show Pk w6 w5.heap.size 25 e1 s1 a1 t1 by subst hw6; exact Pk.new _ _ _ _ _ _)
  replace P := hid (P.out.later bw6)
  replace BE := hid (btr BE.out bw6)
  clear bw6
  go_wp2_with fail
  clear hw6
  refine (drawReadPacket_any ao n cap _ hbig (HCD.out _ BE.out)).mono ?_; rintro z w7 ⟨u, hu, rfl, hb⟩
  have HU := hid hu
  replace P := hid (P.out.later hb)
  replace P1 := hid (P1.out.later hb)
  replace BE := hid (btr BE.out hb)
  clear hb hu
  obtain ⟨e2, s2, a2, t2, k2, h2⟩ := rp_pair u
  have H2 := hid h2
  clear h2
  go_wp2_with fail
  refine (implReadPacket_any u _ HU.out (HN.out.on17 BE.out)).mono ?_; rintro z w8 ⟨hr, hb⟩
  obtain rfl := H2.out z hr
  have HK2 : Hid (k2 = true → pkOk e2 s2 a2 t2 = true ∧ pkS e2 s2 a2 t2 = u) := hid (fun hk => by
    rcases hr with ⟨e', s', a', t', g1, g2, g3⟩ | ⟨_, g3⟩
    · obtain ⟨rfl, rfl, rfl, rfl, _⟩ := tup17 g3
      exact ⟨g1, g2⟩
    · obtain ⟨_, _, _, _, q5⟩ := tup17 g3
      rw [hk] at q5; cases q5)
  replace P := hid (P.out.later hb)
  replace P1 := hid (P1.out.later hb)
  replace BE := hid (btr BE.out hb)
  clear hb hr
  obtain ⟨w9, hw9⟩ : ∃ W, w8.alloc (.cells #[.int .i64 e2, .int .i64 s2, .int .i64 a2, .string t2] 25) = W := ⟨_, rfl⟩
  have bw9 : Below w8.heap.size w8 w9 := by subst hw9; exact bpush (bre _) _
  have P2 := hid (show Pk w9 w8.heap.size 25 e2 s2 a2 t2 by subst hw9; exact Pk.new _ _ _ _ _ _)
  replace P := hid (P.out.later bw9)
  replace P1 := hid (P1.out.later bw9)
  replace BE := hid (btr BE.out bw9)
  clear bw9
  have CSR := hid (fun (W : World) => (specReadPacket_any u W HU.out).mono (fun x w' h => (⟨H2.out x h.1, h.2⟩ : x = _ ∧ _)))
  go_wp2_with fail
  clear hw9
  refine (CSR.out _).mono ?_; rintro z w10 ⟨rfl, hb⟩
  replace P := hid (P.out.later hb)
  replace P1 := hid (P1.out.later hb)
  replace P2 := hid (P2.out.later hb)
  replace BE := hid (btr BE.out hb)
  clear hb CSR H2
  obtain ⟨w11, hw11⟩ : ∃ W, w10.alloc (.cells #[.int .i64 e2, .int .i64 s2, .int .i64 a2, .string t2] 25) = W := ⟨_, rfl⟩
  have bw11 : Below w10.heap.size w10 w11 := by subst hw11; exact bpush (bre _) _
  have P3 := hid (show Pk w11 w10.heap.size 25 e2 s2 a2 t2 by subst hw11; exact Pk.new _ _ _ _ _ _)
  replace P := hid (P.out.later bw11)
  replace P1 := hid (P1.out.later bw11)
  replace P2 := hid (P2.out.later bw11)
  replace BE := hid (btr BE.out bw11)
  clear bw11
  clear P3
  obtain ⟨X3, k3, hX, hX1, hX2, _⟩ := pkR_letters e2 s2 a2 t2
  have CIP := hid (fun (W : World) (hb : Below w.heap.size w W) => implPacketText_any e2 s2 a2 t2 W (HN.out.on17 hb))
  rw [hX] at CIP
  have HK3 : Hid (k2 = true → X3 = u) := hid (fun hk => by obtain ⟨g1, g2⟩ := HK2.out hk; exact (hX1 g1).2.trans g2)
  clear hX hX1 hX2
  have c := P2.out.cells
  go_wp2_with fail
  clear hw11 c P2 HK2 HX2
  refine (CIP.out _ BE.out).mono ?_; rintro z w12 ⟨rfl, hb⟩
  replace P := hid (P.out.later hb)
  replace P1 := hid (P1.out.later hb)
  replace BE := hid (btr BE.out hb)
  clear hb CIP
  go_wp2_with fail
  refine (drawLinkHears_any ao n cap _ hbig (HCD.out _ BE.out)).mono ?_; rintro z w13 ⟨ep, nx, wt, ga, gn, gc, G, e3, s3, a3, t3, rfl, hL, hp3, hb⟩
  have HP3 := hid hp3
  have HL := hid hL
  replace P := hid (P.out.later hb)
  replace P1 := hid (P1.out.later hb)
  replace BE := hid (btr BE.out hb)
  clear hb hp3 hL
  obtain ⟨w14, hw14⟩ : ∃ W, (w13.alloc (.cells #[.int .i64 ep, .slice ga gn gc, .int .i64 nx, .int .i64 wt] 34)).alloc (.cells #[.int .i64 e3, .int .i64 s3, .int .i64 a3, .string t3] 25) = W := ⟨_, rfl⟩
  have b14 : Below w13.heap.size w13 w14 := by subst hw14; exact bpush (bpush (bre _) _) _
  have L := hid (show Lk w14 w13.heap.size 34 ep (.slice ga gn gc) nx wt by subst hw14; exact (Lk.new _ _ _ _ _ _).later (bpush (bre _) _))
  have Q := hid (show Pk w14 (w13.heap.size + 1) 25 e3 s3 a3 t3 by
    subst hw14
    have h := Pk.new (w13.alloc (.cells #[.int .i64 ep, .slice ga gn gc, .int .i64 nx, .int .i64 wt] 34)) 25 e3 s3 a3 t3
    simpa using h)
  replace P := hid (P.out.later b14)
  replace P1 := hid (P1.out.later b14)
  replace BE := hid (btr BE.out b14)
  replace HL := hid (HL.out.later b14)
  clear b14
  have HLS := hid (And.intro HL.out.1.1 HL.out.2)
  have CIH : Hid (∀ (B : Nat) (W : World), SlV W B ga gn gc G → Calls Tryd.prog 12 #[lkv ep (.slice ga gn gc) nx wt, pkv e3 s3 a3 t3] W fun ex w' => ∃ ag cg, ex = .returned (.tuple #[lkv ep (.slice ag (hWay ep nx G e3 a3).length cg) (hNext ep nx G e3 a3) (hWant ep wt e3 s3), .string (hText ep wt e3 s3 t3), .bool (hGot ep wt e3 s3)]) ∧ SlV w' W.heap.size ag (hWay ep nx G e3 a3).length cg (hWay ep nx G e3 a3) ∧ Below W.heap.size W w') := hid (fun B W h => implHearsS_any B W.heap.size ep nx wt ga gn gc G e3 s3 a3 t3 W h.1 (by have := HLS.out.2.1; omega) (fun x hx => by have := HLS.out.2.2.1 x hx; omega) h.ss h.2.1 (by have := HP3.out.1; omega) HP3.out.2 HLS.out.2.2.2.1)
  have CSH : Hid (∀ (B : Nat) (W : World), SlV W B ga gn gc G → Calls Tryd.prog 13 #[lkv ep (.slice ga gn gc) nx wt, pkv e3 s3 a3 t3] W fun ex w' => ∃ ag cg, ex = .returned (.tuple #[lkv ep (.slice ag (hWay ep nx G e3 a3).length cg) (hNext ep nx G e3 a3) (hWant ep wt e3 s3), .string (hText ep wt e3 s3 t3), .bool (hGot ep wt e3 s3)]) ∧ OwV w' W.heap.size (.slice ag (hWay ep nx G e3 a3).length cg) (hWay ep nx G e3 a3) ∧ Below W.heap.size W w') := hid (fun B W h => specHears_any B W.heap.size ep nx wt ga gn gc G e3 s3 a3 t3 W h.1 (by have := HLS.out.2.1; omega) h.ss h.2.1 HP3.out.2)
  have HWL : Hid ((hWay ep nx G e3 a3).length ≤ 60) := hid (by have h1 := hWay_len ep nx G e3 a3; have h2 := HLS.out.1; have h3 := HLS.out.2.1; omega)
  obtain ⟨T1, hT⟩ : ∃ T, hText ep wt e3 s3 t3 = T := ⟨_, rfl⟩
  obtain ⟨Y1, hY⟩ : ∃ Y, hGot ep wt e3 s3 = Y := ⟨_, rfl⟩
  obtain ⟨V1, hV⟩ : ∃ L, hWay ep nx G e3 a3 = L := ⟨_, rfl⟩
  obtain ⟨N1, hN⟩ : ∃ N, hNext ep nx G e3 a3 = N := ⟨_, rfl⟩
  obtain ⟨M1, hM⟩ : ∃ M, hWant ep wt e3 s3 = M := ⟨_, rfl⟩
  rw [hT, hY, hV, hN, hM] at CIH CSH
  rw [hV] at HWL
  obtain ⟨n1, hn1⟩ : ∃ n, V1.length = n := ⟨_, rfl⟩
  rw [hn1] at CIH CSH HWL
  have HN1 := hid hn1
  clear hT hY hV hN hM hn1
  have c := L.out.cells
  have c2 := Q.out.cells
  go_wp2_with fail
  clear hw14 c c2
  refine (CIH.out _ _ HL.out.1).mono ?_; rintro z w15 ⟨aa, ca, rfl, hs, hb⟩
  replace P := hid (P.out.later hb)
  replace P1 := hid (P1.out.later hb)
  replace L := hid (L.out.later hb)
  replace Q := hid (Q.out.later hb)
  replace HL := hid (HL.out.later hb)
  replace BE := hid (btr BE.out hb)
  have SA := hid hs
  clear hb hs CIH
  obtain ⟨w16, hw16⟩ : ∃ W, w15.alloc (.cells #[.int .i64 ep, .slice aa n1 ca, .int .i64 N1, .int .i64 M1] 34) = W := ⟨_, rfl⟩
  have bw16 : Below w15.heap.size w15 w16 := by subst hw16; exact bpush (bre _) _
  have A := hid (show Lk w16 w15.heap.size 34 ep (.slice aa n1 ca) N1 M1 by subst hw16; exact Lk.new _ _ _ _ _ _)
  replace P := hid (P.out.later bw16)
  replace P1 := hid (P1.out.later bw16)
  replace L := hid (L.out.later bw16)
  replace Q := hid (Q.out.later bw16)
  replace HL := hid (HL.out.later bw16)
  replace SA := hid (SA.out.later bw16)
  replace BE := hid (btr BE.out bw16)
  clear bw16
  have c := L.out.cells
  have c2 := Q.out.cells
  go_wp2_with fail
  clear hw16 c c2
  refine (CSH.out _ _ HL.out.1).mono ?_; rintro z w17 ⟨ab, cb, rfl, hs, hb⟩
  replace P := hid (P.out.later hb)
  replace P1 := hid (P1.out.later hb)
  replace L := hid (L.out.later hb)
  replace HL := hid (HL.out.later hb)
  replace SA := hid (SA.out.later hb)
  replace A := hid (A.out.later hb)
  replace BE := hid (btr BE.out hb)
  have SB := hid (SlV.of hs)
  clear hb hs CSH Q
  obtain ⟨w18, hw18⟩ : ∃ W, w17.alloc (.cells #[.int .i64 ep, .slice ab n1 cb, .int .i64 N1, .int .i64 M1] 34) = W := ⟨_, rfl⟩
  have bw18 : Below w17.heap.size w17 w18 := by subst hw18; exact bpush (bre _) _
  have B := hid (show Lk w18 w17.heap.size 34 ep (.slice ab n1 cb) N1 M1 by subst hw18; exact Lk.new _ _ _ _ _ _)
  replace P := hid (P.out.later bw18)
  replace P1 := hid (P1.out.later bw18)
  replace L := hid (L.out.later bw18)
  replace HL := hid (HL.out.later bw18)
  replace SA := hid (SA.out.later bw18)
  replace A := hid (A.out.later bw18)
  replace SB := hid (SB.out.later bw18)
  replace BE := hid (btr BE.out bw18)
  clear bw18
  go_wp2_with fail
  clear hw18
  refine (drawLinkPut_any ao n cap _ hbig (HCD.out _ BE.out)).mono ?_; rintro z w19 ⟨ep4, nx4, wt4, ga4, gn4, gc4, G4, t4, rfl, hL, ht4, hb⟩
  have HL4 := hid hL
  have HT4 := hid ht4
  replace P := hid (P.out.later hb)
  replace P1 := hid (P1.out.later hb)
  replace L := hid (L.out.later hb)
  replace HL := hid (HL.out.later hb)
  replace SA := hid (SA.out.later hb)
  replace A := hid (A.out.later hb)
  replace SB := hid (SB.out.later hb)
  replace B := hid (B.out.later hb)
  replace BE := hid (btr BE.out hb)
  clear hb hL ht4
  obtain ⟨w20, hw20⟩ : ∃ W, w19.alloc (.cells #[.int .i64 ep4, .slice ga4 gn4 gc4, .int .i64 nx4, .int .i64 wt4] 34) = W := ⟨_, rfl⟩
  have bw20 : Below w19.heap.size w19 w20 := by subst hw20; exact bpush (bre _) _
  have ML := hid (show Lk w20 w19.heap.size 34 ep4 (.slice ga4 gn4 gc4) nx4 wt4 by subst hw20; exact Lk.new _ _ _ _ _ _)
  replace P := hid (P.out.later bw20)
  replace P1 := hid (P1.out.later bw20)
  replace L := hid (L.out.later bw20)
  replace HL := hid (HL.out.later bw20)
  replace SA := hid (SA.out.later bw20)
  replace A := hid (A.out.later bw20)
  replace SB := hid (SB.out.later bw20)
  replace B := hid (B.out.later bw20)
  replace HL4 := hid (HL4.out.later bw20)
  replace BE := hid (btr BE.out bw20)
  clear bw20
  have HLP := hid HL4.out.2
  have CIQ : Hid (∀ (B : Nat) (W : World), SlV W B ga4 gn4 gc4 G4 → Calls Tryd.prog 15 #[lkv ep4 (.slice ga4 gn4 gc4) nx4 wt4, .string t4] W fun ex w' => ∃ ag cg, ex = .returned (.tuple #[lkv ep4 (.slice ag (lpw G4 t4).length cg) nx4 wt4, .bool (lpo gn4 t4)]) ∧ OwV w' W.heap.size (.slice ag (lpw G4 t4).length cg) (lpw G4 t4) ∧ Below W.heap.size W w') := hid (fun B W h => implLinkPut_any B W.heap.size ep4 nx4 wt4 ga4 gn4 gc4 G4 t4 W h.1 (by have := HLP.out.1; omega) (fun x hx => by have := HLP.out.2.1 x hx; omega) h.ss h.2.1 (by have := HT4.out; omega))
  have CSQ : Hid (∀ (B : Nat) (W : World), SlV W B ga4 gn4 gc4 G4 → Calls Tryd.prog 16 #[lkv ep4 (.slice ga4 gn4 gc4) nx4 wt4, .string t4] W fun ex w' => ∃ ag cg, ex = .returned (.tuple #[lkv ep4 (.slice ag (lpw G4 t4).length cg) nx4 wt4, .bool (lpo gn4 t4)]) ∧ OwV w' W.heap.size (.slice ag (lpw G4 t4).length cg) (lpw G4 t4) ∧ Below W.heap.size W w') := hid (fun B W h => specLinkPut_any B W.heap.size ep4 nx4 wt4 ga4 gn4 gc4 G4 t4 W h.1 (by have := HLP.out.1; omega) (by have := HT4.out; omega) h.ss h.2.1)
  have HWQ : Hid ((lpw G4 t4).length ≤ 61) := hid (by have h1 := lpw_len G4 t4; have h2 := HL4.out.1.1; have h3 := HLP.out.1; omega)
  obtain ⟨Y2, hY⟩ : ∃ Y, lpo gn4 t4 = Y := ⟨_, rfl⟩
  obtain ⟨V2, hV⟩ : ∃ L, lpw G4 t4 = L := ⟨_, rfl⟩
  rw [hY, hV] at CIQ CSQ
  rw [hV] at HWQ
  obtain ⟨n2, hn2⟩ : ∃ n, V2.length = n := ⟨_, rfl⟩
  rw [hn2] at CIQ CSQ HWQ
  have HN2 := hid hn2
  clear hY hV hn2
  have c := ML.out.cells
  go_wp2_with fail
  clear hw20 c
  refine (CIQ.out _ _ HL4.out.1).mono ?_; rintro z w21 ⟨ac, cc, rfl, hs, hb⟩
  replace P := hid (P.out.later hb)
  replace P1 := hid (P1.out.later hb)
  replace L := hid (L.out.later hb)
  replace HL := hid (HL.out.later hb)
  replace SA := hid (SA.out.later hb)
  replace A := hid (A.out.later hb)
  replace SB := hid (SB.out.later hb)
  replace B := hid (B.out.later hb)
  replace HL4 := hid (HL4.out.later hb)
  replace ML := hid (ML.out.later hb)
  replace BE := hid (btr BE.out hb)
  have SC := hid (SlV.of hs)
  clear hb hs CIQ
  obtain ⟨w22, hw22⟩ : ∃ W, w21.alloc (.cells #[.int .i64 ep4, .slice ac n2 cc, .int .i64 nx4, .int .i64 wt4] 34) = W := ⟨_, rfl⟩
  have bw22 : Below w21.heap.size w21 w22 := by subst hw22; exact bpush (bre _) _
  have C := hid (show Lk w22 w21.heap.size 34 ep4 (.slice ac n2 cc) nx4 wt4 by subst hw22; exact Lk.new _ _ _ _ _ _)
  replace P := hid (P.out.later bw22)
  replace P1 := hid (P1.out.later bw22)
  replace L := hid (L.out.later bw22)
  replace HL := hid (HL.out.later bw22)
  replace SA := hid (SA.out.later bw22)
  replace A := hid (A.out.later bw22)
  replace SB := hid (SB.out.later bw22)
  replace B := hid (B.out.later bw22)
  replace HL4 := hid (HL4.out.later bw22)
  replace ML := hid (ML.out.later bw22)
  replace SC := hid (SC.out.later bw22)
  replace BE := hid (btr BE.out bw22)
  clear bw22
  have c := ML.out.cells
  go_wp2_with fail
  clear hw22 c
  refine (CSQ.out _ _ HL4.out.1).mono ?_; rintro z w23 ⟨ad, cd, rfl, hs, hb⟩
  replace P := hid (P.out.later hb)
  replace P1 := hid (P1.out.later hb)
  replace L := hid (L.out.later hb)
  replace HL := hid (HL.out.later hb)
  replace SA := hid (SA.out.later hb)
  replace A := hid (A.out.later hb)
  replace SB := hid (SB.out.later hb)
  replace B := hid (B.out.later hb)
  replace SC := hid (SC.out.later hb)
  replace C := hid (C.out.later hb)
  replace BE := hid (btr BE.out hb)
  have SD := hid (SlV.of hs)
  clear hb hs CSQ ML HL4
  obtain ⟨w24, hw24⟩ : ∃ W, w23.alloc (.cells #[.int .i64 ep4, .slice ad n2 cd, .int .i64 nx4, .int .i64 wt4] 34) = W := ⟨_, rfl⟩
  have bw24 : Below w23.heap.size w23 w24 := by subst hw24; exact bpush (bre _) _
  have DD := hid (show Lk w24 w23.heap.size 34 ep4 (.slice ad n2 cd) nx4 wt4 by subst hw24; exact Lk.new _ _ _ _ _ _)
  replace P := hid (P.out.later bw24)
  replace P1 := hid (P1.out.later bw24)
  replace L := hid (L.out.later bw24)
  replace HL := hid (HL.out.later bw24)
  replace SA := hid (SA.out.later bw24)
  replace A := hid (A.out.later bw24)
  replace SB := hid (SB.out.later bw24)
  replace B := hid (B.out.later bw24)
  replace SC := hid (SC.out.later bw24)
  replace C := hid (C.out.later bw24)
  replace SD := hid (SD.out.later bw24)
  replace BE := hid (btr BE.out bw24)
  clear bw24
  have CAB : Hid (∀ W, Below w24.heap.size w24 W → Calls Tryd.prog 17 #[lkv ep (.slice aa n1 ca) N1 M1, lkv ep (.slice ab n1 cb) N1 M1] W fun ex w' => ex = .returned (.bool true) ∧ Below W.heap.size W w') := hid (fun W hb => sameLink17_any _ _ _ _ ep N1 M1 aa ab n1 ca cb V1 W HN1.out (by have := HWL.out; omega) (SA.out.later hb).ss (SB.out.later hb).ss)
  have CCD : Hid (∀ W, Below w24.heap.size w24 W → Calls Tryd.prog 17 #[lkv ep4 (.slice ac n2 cc) nx4 wt4, lkv ep4 (.slice ad n2 cd) nx4 wt4] W fun ex w' => ex = .returned (.bool true) ∧ Below W.heap.size W w') := hid (fun W hb => sameLink17_any _ _ _ _ ep4 nx4 wt4 ac ad n2 cc cd V2 W HN2.out (by have := HWQ.out; omega) (SC.out.later hb).ss (SD.out.later hb).ss)
  have CIS : Hid (∀ W, Below w24.heap.size w24 W → Calls Tryd.prog 18 #[lkv ep (.slice ga gn gc) nx wt] W fun ex w' => ex = .returned (pkv ep (sayN G nx) wt (sayT G)) ∧ Below W.heap.size W w') := hid (fun W hb => implSays_any _ _ ep nx wt ga gn gc G W HL.out.1.1 (by have := HLS.out.2.1; omega) (fun x hx => by have := HLS.out.2.2.1 x hx; omega) (HL.out.1.later hb).ss HL.out.1.2.1)
  have CSS : Hid (∀ W, Below w24.heap.size w24 W → Calls Tryd.prog 19 #[lkv ep (.slice ga gn gc) nx wt] W fun ex w' => ex = .returned (pkv ep (sayN G nx) wt (sayT G)) ∧ Below W.heap.size W w') := hid (fun W hb => specSays_any _ _ ep nx wt ga gn gc G W HL.out.1.1 (HL.out.1.later hb).ss)
  obtain ⟨SN, hSN⟩ : ∃ x, sayN G nx = x := ⟨_, rfl⟩
  obtain ⟨ST, hST⟩ : ∃ x, sayT G = x := ⟨_, rfl⟩
  rw [hSN, hST] at CIS CSS
  clear hSN hST
  have HS : Hid (∀ W, Below w24.heap.size w24 W → (W.cell? ⟨w1.heap.size, 0, none⟩ = some (.int .i64 e) ∧ W.cell? ⟨w1.heap.size, 1, none⟩ = some (.int .i64 s) ∧ W.cell? ⟨w1.heap.size, 2, none⟩ = some (.int .i64 a) ∧ W.cell? ⟨w1.heap.size, 3, none⟩ = some (.string t)) ∧ (W.cell? ⟨w5.heap.size, 0, none⟩ = some (.int .i64 e1) ∧ W.cell? ⟨w5.heap.size, 1, none⟩ = some (.int .i64 s1) ∧ W.cell? ⟨w5.heap.size, 2, none⟩ = some (.int .i64 a1) ∧ W.cell? ⟨w5.heap.size, 3, none⟩ = some (.string t1)) ∧ (W.cell? ⟨w15.heap.size, 0, none⟩ = some (.int .i64 ep) ∧ W.cell? ⟨w15.heap.size, 1, none⟩ = some (.slice aa n1 ca) ∧ W.cell? ⟨w15.heap.size, 2, none⟩ = some (.int .i64 N1) ∧ W.cell? ⟨w15.heap.size, 3, none⟩ = some (.int .i64 M1)) ∧ (W.cell? ⟨w17.heap.size, 0, none⟩ = some (.int .i64 ep) ∧ W.cell? ⟨w17.heap.size, 1, none⟩ = some (.slice ab n1 cb) ∧ W.cell? ⟨w17.heap.size, 2, none⟩ = some (.int .i64 N1) ∧ W.cell? ⟨w17.heap.size, 3, none⟩ = some (.int .i64 M1)) ∧ (W.cell? ⟨w21.heap.size, 0, none⟩ = some (.int .i64 ep4) ∧ W.cell? ⟨w21.heap.size, 1, none⟩ = some (.slice ac n2 cc) ∧ W.cell? ⟨w21.heap.size, 2, none⟩ = some (.int .i64 nx4) ∧ W.cell? ⟨w21.heap.size, 3, none⟩ = some (.int .i64 wt4)) ∧ (W.cell? ⟨w23.heap.size, 0, none⟩ = some (.int .i64 ep4) ∧ W.cell? ⟨w23.heap.size, 1, none⟩ = some (.slice ad n2 cd) ∧ W.cell? ⟨w23.heap.size, 2, none⟩ = some (.int .i64 nx4) ∧ W.cell? ⟨w23.heap.size, 3, none⟩ = some (.int .i64 wt4)) ∧ (W.cell? ⟨w13.heap.size, 0, none⟩ = some (.int .i64 ep) ∧ W.cell? ⟨w13.heap.size, 1, none⟩ = some (.slice ga gn gc) ∧ W.cell? ⟨w13.heap.size, 2, none⟩ = some (.int .i64 nx) ∧ W.cell? ⟨w13.heap.size, 3, none⟩ = some (.int .i64 wt))) := hid (fun W hb => ⟨(P.out.later hb).cells, (P1.out.later hb).cells, (A.out.later hb).cells, (B.out.later hb).cells, (C.out.later hb).cells, (DD.out.later hb).cells, (L.out.later hb).cells⟩)
  have BEF := hid BE.out
  go_upto_region 17 with fail
  clear P P1 A B C DD L SA SB SC SD HL HLS HWL HWQ HN1 HN2 HPD HP3 HT4 HLP HU HCD HO HN hw24 BE
  have eY1 : (Y1 == Y1) = true := by simp
  have eY2 : (Y2 == Y2) = true := by simp
  have eT1 : (T1.toList == T1.toList) = true := by simp
  have eSS := eqPk17 ep SN wt ST
  cases k with
  | true =>
    obtain ⟨rfl, rfl, rfl, rfl, rfl⟩ := HK1.out rfl
    have ePP := eqPk17 e1 s1 a1 t1
    cases k2 with
    | true =>
      obtain rfl := HK3.out rfl
      have eUU : (X3.toList == X3.toList) = true := by simp
      try dsimp only [List.append]
      refine wp_region_noPanic ?_
      refine wp_region_held_drew (S := (fun W => (W.cell? ⟨w1.heap.size, 0, none⟩ = some (.int .i64 e1) ∧ W.cell? ⟨w1.heap.size, 1, none⟩ = some (.int .i64 s1) ∧ W.cell? ⟨w1.heap.size, 2, none⟩ = some (.int .i64 a1) ∧ W.cell? ⟨w1.heap.size, 3, none⟩ = some (.string t1)) ∧ (W.cell? ⟨w5.heap.size, 0, none⟩ = some (.int .i64 e1) ∧ W.cell? ⟨w5.heap.size, 1, none⟩ = some (.int .i64 s1) ∧ W.cell? ⟨w5.heap.size, 2, none⟩ = some (.int .i64 a1) ∧ W.cell? ⟨w5.heap.size, 3, none⟩ = some (.string t1)) ∧ (W.cell? ⟨w15.heap.size, 0, none⟩ = some (.int .i64 ep) ∧ W.cell? ⟨w15.heap.size, 1, none⟩ = some (.slice aa n1 ca) ∧ W.cell? ⟨w15.heap.size, 2, none⟩ = some (.int .i64 N1) ∧ W.cell? ⟨w15.heap.size, 3, none⟩ = some (.int .i64 M1)) ∧ (W.cell? ⟨w17.heap.size, 0, none⟩ = some (.int .i64 ep) ∧ W.cell? ⟨w17.heap.size, 1, none⟩ = some (.slice ab n1 cb) ∧ W.cell? ⟨w17.heap.size, 2, none⟩ = some (.int .i64 N1) ∧ W.cell? ⟨w17.heap.size, 3, none⟩ = some (.int .i64 M1)) ∧ (W.cell? ⟨w21.heap.size, 0, none⟩ = some (.int .i64 ep4) ∧ W.cell? ⟨w21.heap.size, 1, none⟩ = some (.slice ac n2 cc) ∧ W.cell? ⟨w21.heap.size, 2, none⟩ = some (.int .i64 nx4) ∧ W.cell? ⟨w21.heap.size, 3, none⟩ = some (.int .i64 wt4)) ∧ (W.cell? ⟨w23.heap.size, 0, none⟩ = some (.int .i64 ep4) ∧ W.cell? ⟨w23.heap.size, 1, none⟩ = some (.slice ad n2 cd) ∧ W.cell? ⟨w23.heap.size, 2, none⟩ = some (.int .i64 nx4) ∧ W.cell? ⟨w23.heap.size, 3, none⟩ = some (.int .i64 wt4)) ∧ (W.cell? ⟨w13.heap.size, 0, none⟩ = some (.int .i64 ep) ∧ W.cell? ⟨w13.heap.size, 1, none⟩ = some (.slice ga gn gc) ∧ W.cell? ⟨w13.heap.size, 2, none⟩ = some (.int .i64 nx) ∧ W.cell? ⟨w13.heap.size, 3, none⟩ = some (.int .i64 wt)))) (by kernel_rfl) (HS.out _ (bdr (bre _))) (fun hHeld => ?_)
      obtain ⟨x0, hx0⟩ : ∃ x, w24.drew = x := ⟨_, rfl⟩
      have D0 : Hid (Below w24.heap.size w24 x0) := hid (by rw [← hx0]; exact bdr (bre _))
      rw [hx0] at hHeld
      rw [hx0]
      clear hx0
      refine tk 0 ?_
      refine tk 1 ?_
      refine tk 2 ?_
      refine tk 3 ?_
      refine tk 4 ?_
      refine tk 5 ?_
      refine tk 6 ?_
      refine tk 7 ?_
      refine tk 8 ?_
      refine tk 9 ?_
      refine tk 10 ?_
      refine tk 11 ?_
      refine tk 12 ?_
      refine tk 13 ?_
      refine tk 14 ?_
      refine tk 15 ?_
      refine tk 16 ?_
      refine tk 17 ?_
      refine tk 18 ?_
      refine tk 19 ?_
      refine tk 20 ?_
      refine tk 21 ?_
      refine tk 22 ?_
      refine tk 23 ?_
      refine tk 24 ?_
      refine tk 25 ?_
      refine tk 26 ?_
      refine tk 27 ?_
      refine tk 28 ?_
      refine tk 29 ?_
      refine tk 30 ?_
      refine tk 31 ?_
      clear hHeld
      refine ry 32 (fun K hK => ?_)
      go_simp
      refine (CAB.out _ D0.out).mono ?_; rintro z x1 ⟨rfl, hb⟩
      have D1 : Hid (Below w24.heap.size w24 x1) := hid (btr D0.out hb)
      clear hb
      refine hK.out _ _ (HS.out _ D1.out) (fun hHeld => ?_)
      clear hK K
      try simp only [Act.put, List.setIfInBounds_toArray, List.set_cons_zero, List.set_cons_succ]
      refine tk 33 ?_
      refine tk 34 ?_
      refine tk 35 ?_
      refine tk 36 ?_
      refine tk 37 ?_
      refine tk 38 ?_
      refine tk 39 ?_
      refine tk 40 ?_
      refine tk 41 ?_
      refine tk 42 ?_
      refine tk 43 ?_
      refine tk 44 ?_
      refine tk 45 ?_
      refine tk 46 ?_
      refine tk 47 ?_
      refine tk 48 ?_
      refine tk 49 ?_
      refine tk 50 ?_
      refine tk 51 ?_
      clear hHeld
      refine ry 52 (fun K hK => ?_)
      go_simp
      refine (CCD.out _ D1.out).mono ?_; rintro z x2 ⟨rfl, hb⟩
      have D2 : Hid (Below w24.heap.size w24 x2) := hid (btr D1.out hb)
      clear hb
      refine hK.out _ _ (HS.out _ D2.out) (fun hHeld => ?_)
      clear hK K
      try simp only [Act.put, List.setIfInBounds_toArray, List.set_cons_zero, List.set_cons_succ]
      refine tk 53 ?_
      refine tk 54 ?_
      refine tk 55 ?_
      refine tk 57 ?_
      clear hHeld
      refine ry 56 (fun K hK => ?_)
      go_simp
      refine (CIS.out _ D2.out).mono ?_; rintro z x3 ⟨rfl, hb⟩
      have D3 : Hid (Below w24.heap.size w24 x3) := hid (btr D2.out hb)
      clear hb
      refine hK.out _ _ (HS.out _ D3.out) (fun hHeld => ?_)
      clear hK K
      try simp only [Act.put, List.setIfInBounds_toArray, List.set_cons_zero, List.set_cons_succ]
      clear hHeld
      refine ry 58 (fun K hK => ?_)
      go_simp
      refine (CSS.out _ D3.out).mono ?_; rintro z x4 ⟨rfl, hb⟩
      have D4 : Hid (Below w24.heap.size w24 x4) := hid (btr D3.out hb)
      clear hb
      refine hK.out _ _ (HS.out _ D4.out) (fun hHeld => ?_)
      clear hK K
      try simp only [Act.put, List.setIfInBounds_toArray, List.set_cons_zero, List.set_cons_succ]
      refine tk 59 ?_
      refine tk 60 ?_
      refine tk 61 ?_
      clear hHeld
      refine wpAnyH_done (by kernel_rfl) ?_ _
      refine NoPanic.normal ?_
      go_wp2
      go_ret
      exact ⟨rfl, btr BEF.out D4.out⟩
    | false =>
      try dsimp only [List.append]
      refine wp_region_noPanic ?_
      refine wp_region_held_drew (S := (fun W => (W.cell? ⟨w1.heap.size, 0, none⟩ = some (.int .i64 e1) ∧ W.cell? ⟨w1.heap.size, 1, none⟩ = some (.int .i64 s1) ∧ W.cell? ⟨w1.heap.size, 2, none⟩ = some (.int .i64 a1) ∧ W.cell? ⟨w1.heap.size, 3, none⟩ = some (.string t1)) ∧ (W.cell? ⟨w5.heap.size, 0, none⟩ = some (.int .i64 e1) ∧ W.cell? ⟨w5.heap.size, 1, none⟩ = some (.int .i64 s1) ∧ W.cell? ⟨w5.heap.size, 2, none⟩ = some (.int .i64 a1) ∧ W.cell? ⟨w5.heap.size, 3, none⟩ = some (.string t1)) ∧ (W.cell? ⟨w15.heap.size, 0, none⟩ = some (.int .i64 ep) ∧ W.cell? ⟨w15.heap.size, 1, none⟩ = some (.slice aa n1 ca) ∧ W.cell? ⟨w15.heap.size, 2, none⟩ = some (.int .i64 N1) ∧ W.cell? ⟨w15.heap.size, 3, none⟩ = some (.int .i64 M1)) ∧ (W.cell? ⟨w17.heap.size, 0, none⟩ = some (.int .i64 ep) ∧ W.cell? ⟨w17.heap.size, 1, none⟩ = some (.slice ab n1 cb) ∧ W.cell? ⟨w17.heap.size, 2, none⟩ = some (.int .i64 N1) ∧ W.cell? ⟨w17.heap.size, 3, none⟩ = some (.int .i64 M1)) ∧ (W.cell? ⟨w21.heap.size, 0, none⟩ = some (.int .i64 ep4) ∧ W.cell? ⟨w21.heap.size, 1, none⟩ = some (.slice ac n2 cc) ∧ W.cell? ⟨w21.heap.size, 2, none⟩ = some (.int .i64 nx4) ∧ W.cell? ⟨w21.heap.size, 3, none⟩ = some (.int .i64 wt4)) ∧ (W.cell? ⟨w23.heap.size, 0, none⟩ = some (.int .i64 ep4) ∧ W.cell? ⟨w23.heap.size, 1, none⟩ = some (.slice ad n2 cd) ∧ W.cell? ⟨w23.heap.size, 2, none⟩ = some (.int .i64 nx4) ∧ W.cell? ⟨w23.heap.size, 3, none⟩ = some (.int .i64 wt4)) ∧ (W.cell? ⟨w13.heap.size, 0, none⟩ = some (.int .i64 ep) ∧ W.cell? ⟨w13.heap.size, 1, none⟩ = some (.slice ga gn gc) ∧ W.cell? ⟨w13.heap.size, 2, none⟩ = some (.int .i64 nx) ∧ W.cell? ⟨w13.heap.size, 3, none⟩ = some (.int .i64 wt)))) (by kernel_rfl) (HS.out _ (bdr (bre _))) (fun hHeld => ?_)
      obtain ⟨x0, hx0⟩ : ∃ x, w24.drew = x := ⟨_, rfl⟩
      have D0 : Hid (Below w24.heap.size w24 x0) := hid (by rw [← hx0]; exact bdr (bre _))
      rw [hx0] at hHeld
      rw [hx0]
      clear hx0
      refine tk 0 ?_
      refine tk 1 ?_
      refine tk 2 ?_
      refine tk 3 ?_
      refine tk 4 ?_
      refine tk 5 ?_
      refine tk 6 ?_
      refine tk 7 ?_
      refine tk 8 ?_
      refine tk 9 ?_
      refine tk 10 ?_
      refine tk 11 ?_
      refine tk 12 ?_
      refine tk 13 ?_
      refine tk 14 ?_
      refine tk 15 ?_
      refine tk 16 ?_
      refine tk 17 ?_
      refine tk 18 ?_
      refine tk 19 ?_
      refine tk 20 ?_
      refine tk 21 ?_
      refine tk 22 ?_
      refine tk 23 ?_
      refine tn 24 ?_
      refine tn 25 ?_
      refine tn 26 ?_
      refine tk 27 ?_
      refine tk 28 ?_
      refine tk 29 ?_
      refine tk 30 ?_
      refine tk 31 ?_
      clear hHeld
      refine ry 32 (fun K hK => ?_)
      go_simp
      refine (CAB.out _ D0.out).mono ?_; rintro z x1 ⟨rfl, hb⟩
      have D1 : Hid (Below w24.heap.size w24 x1) := hid (btr D0.out hb)
      clear hb
      refine hK.out _ _ (HS.out _ D1.out) (fun hHeld => ?_)
      clear hK K
      try simp only [Act.put, List.setIfInBounds_toArray, List.set_cons_zero, List.set_cons_succ]
      refine tk 33 ?_
      refine tk 34 ?_
      refine tk 35 ?_
      refine tk 36 ?_
      refine tk 37 ?_
      refine tk 38 ?_
      refine tk 39 ?_
      refine tk 40 ?_
      refine tk 41 ?_
      refine tk 42 ?_
      refine tk 43 ?_
      refine tk 44 ?_
      refine tk 45 ?_
      refine tk 46 ?_
      refine tk 47 ?_
      refine tk 48 ?_
      refine tk 49 ?_
      refine tk 50 ?_
      refine tk 51 ?_
      clear hHeld
      refine ry 52 (fun K hK => ?_)
      go_simp
      refine (CCD.out _ D1.out).mono ?_; rintro z x2 ⟨rfl, hb⟩
      have D2 : Hid (Below w24.heap.size w24 x2) := hid (btr D1.out hb)
      clear hb
      refine hK.out _ _ (HS.out _ D2.out) (fun hHeld => ?_)
      clear hK K
      try simp only [Act.put, List.setIfInBounds_toArray, List.set_cons_zero, List.set_cons_succ]
      refine tk 53 ?_
      refine tk 54 ?_
      refine tk 55 ?_
      refine tk 57 ?_
      clear hHeld
      refine ry 56 (fun K hK => ?_)
      go_simp
      refine (CIS.out _ D2.out).mono ?_; rintro z x3 ⟨rfl, hb⟩
      have D3 : Hid (Below w24.heap.size w24 x3) := hid (btr D2.out hb)
      clear hb
      refine hK.out _ _ (HS.out _ D3.out) (fun hHeld => ?_)
      clear hK K
      try simp only [Act.put, List.setIfInBounds_toArray, List.set_cons_zero, List.set_cons_succ]
      clear hHeld
      refine ry 58 (fun K hK => ?_)
      go_simp
      refine (CSS.out _ D3.out).mono ?_; rintro z x4 ⟨rfl, hb⟩
      have D4 : Hid (Below w24.heap.size w24 x4) := hid (btr D3.out hb)
      clear hb
      refine hK.out _ _ (HS.out _ D4.out) (fun hHeld => ?_)
      clear hK K
      try simp only [Act.put, List.setIfInBounds_toArray, List.set_cons_zero, List.set_cons_succ]
      refine tk 59 ?_
      refine tk 60 ?_
      refine tk 61 ?_
      clear hHeld
      refine wpAnyH_done (by kernel_rfl) ?_ _
      refine NoPanic.normal ?_
      go_wp2
      go_ret
      exact ⟨rfl, btr BEF.out D4.out⟩
  | false =>
    clear HK1
    cases k2 with
    | true =>
      obtain rfl := HK3.out rfl
      have eUU : (X3.toList == X3.toList) = true := by simp
      try dsimp only [List.append]
      refine wp_region_noPanic ?_
      refine wp_region_held_drew (S := (fun W => (W.cell? ⟨w1.heap.size, 0, none⟩ = some (.int .i64 e) ∧ W.cell? ⟨w1.heap.size, 1, none⟩ = some (.int .i64 s) ∧ W.cell? ⟨w1.heap.size, 2, none⟩ = some (.int .i64 a) ∧ W.cell? ⟨w1.heap.size, 3, none⟩ = some (.string t)) ∧ (W.cell? ⟨w5.heap.size, 0, none⟩ = some (.int .i64 e1) ∧ W.cell? ⟨w5.heap.size, 1, none⟩ = some (.int .i64 s1) ∧ W.cell? ⟨w5.heap.size, 2, none⟩ = some (.int .i64 a1) ∧ W.cell? ⟨w5.heap.size, 3, none⟩ = some (.string t1)) ∧ (W.cell? ⟨w15.heap.size, 0, none⟩ = some (.int .i64 ep) ∧ W.cell? ⟨w15.heap.size, 1, none⟩ = some (.slice aa n1 ca) ∧ W.cell? ⟨w15.heap.size, 2, none⟩ = some (.int .i64 N1) ∧ W.cell? ⟨w15.heap.size, 3, none⟩ = some (.int .i64 M1)) ∧ (W.cell? ⟨w17.heap.size, 0, none⟩ = some (.int .i64 ep) ∧ W.cell? ⟨w17.heap.size, 1, none⟩ = some (.slice ab n1 cb) ∧ W.cell? ⟨w17.heap.size, 2, none⟩ = some (.int .i64 N1) ∧ W.cell? ⟨w17.heap.size, 3, none⟩ = some (.int .i64 M1)) ∧ (W.cell? ⟨w21.heap.size, 0, none⟩ = some (.int .i64 ep4) ∧ W.cell? ⟨w21.heap.size, 1, none⟩ = some (.slice ac n2 cc) ∧ W.cell? ⟨w21.heap.size, 2, none⟩ = some (.int .i64 nx4) ∧ W.cell? ⟨w21.heap.size, 3, none⟩ = some (.int .i64 wt4)) ∧ (W.cell? ⟨w23.heap.size, 0, none⟩ = some (.int .i64 ep4) ∧ W.cell? ⟨w23.heap.size, 1, none⟩ = some (.slice ad n2 cd) ∧ W.cell? ⟨w23.heap.size, 2, none⟩ = some (.int .i64 nx4) ∧ W.cell? ⟨w23.heap.size, 3, none⟩ = some (.int .i64 wt4)) ∧ (W.cell? ⟨w13.heap.size, 0, none⟩ = some (.int .i64 ep) ∧ W.cell? ⟨w13.heap.size, 1, none⟩ = some (.slice ga gn gc) ∧ W.cell? ⟨w13.heap.size, 2, none⟩ = some (.int .i64 nx) ∧ W.cell? ⟨w13.heap.size, 3, none⟩ = some (.int .i64 wt)))) (by kernel_rfl) (HS.out _ (bdr (bre _))) (fun hHeld => ?_)
      obtain ⟨x0, hx0⟩ : ∃ x, w24.drew = x := ⟨_, rfl⟩
      have D0 : Hid (Below w24.heap.size w24 x0) := hid (by rw [← hx0]; exact bdr (bre _))
      rw [hx0] at hHeld
      rw [hx0]
      clear hx0
      refine tk 0 ?_
      refine tk 1 ?_
      refine tk 2 ?_
      refine tk 3 ?_
      refine tk 4 ?_
      refine tk 5 ?_
      refine tk 6 ?_
      refine tn 7 ?_
      refine tn 8 ?_
      refine tn 9 ?_
      refine tn 10 ?_
      refine tn 11 ?_
      refine tn 12 ?_
      refine tk 13 ?_
      refine tk 14 ?_
      refine tk 15 ?_
      refine tk 16 ?_
      refine tk 17 ?_
      refine tk 18 ?_
      refine tk 19 ?_
      refine tk 20 ?_
      refine tk 21 ?_
      refine tk 22 ?_
      refine tk 23 ?_
      refine tk 24 ?_
      refine tk 25 ?_
      refine tk 26 ?_
      refine tk 27 ?_
      refine tk 28 ?_
      refine tk 29 ?_
      refine tk 30 ?_
      refine tk 31 ?_
      clear hHeld
      refine ry 32 (fun K hK => ?_)
      go_simp
      refine (CAB.out _ D0.out).mono ?_; rintro z x1 ⟨rfl, hb⟩
      have D1 : Hid (Below w24.heap.size w24 x1) := hid (btr D0.out hb)
      clear hb
      refine hK.out _ _ (HS.out _ D1.out) (fun hHeld => ?_)
      clear hK K
      try simp only [Act.put, List.setIfInBounds_toArray, List.set_cons_zero, List.set_cons_succ]
      refine tk 33 ?_
      refine tk 34 ?_
      refine tk 35 ?_
      refine tk 36 ?_
      refine tk 37 ?_
      refine tk 38 ?_
      refine tk 39 ?_
      refine tk 40 ?_
      refine tk 41 ?_
      refine tk 42 ?_
      refine tk 43 ?_
      refine tk 44 ?_
      refine tk 45 ?_
      refine tk 46 ?_
      refine tk 47 ?_
      refine tk 48 ?_
      refine tk 49 ?_
      refine tk 50 ?_
      refine tk 51 ?_
      clear hHeld
      refine ry 52 (fun K hK => ?_)
      go_simp
      refine (CCD.out _ D1.out).mono ?_; rintro z x2 ⟨rfl, hb⟩
      have D2 : Hid (Below w24.heap.size w24 x2) := hid (btr D1.out hb)
      clear hb
      refine hK.out _ _ (HS.out _ D2.out) (fun hHeld => ?_)
      clear hK K
      try simp only [Act.put, List.setIfInBounds_toArray, List.set_cons_zero, List.set_cons_succ]
      refine tk 53 ?_
      refine tk 54 ?_
      refine tk 55 ?_
      refine tk 57 ?_
      clear hHeld
      refine ry 56 (fun K hK => ?_)
      go_simp
      refine (CIS.out _ D2.out).mono ?_; rintro z x3 ⟨rfl, hb⟩
      have D3 : Hid (Below w24.heap.size w24 x3) := hid (btr D2.out hb)
      clear hb
      refine hK.out _ _ (HS.out _ D3.out) (fun hHeld => ?_)
      clear hK K
      try simp only [Act.put, List.setIfInBounds_toArray, List.set_cons_zero, List.set_cons_succ]
      clear hHeld
      refine ry 58 (fun K hK => ?_)
      go_simp
      refine (CSS.out _ D3.out).mono ?_; rintro z x4 ⟨rfl, hb⟩
      have D4 : Hid (Below w24.heap.size w24 x4) := hid (btr D3.out hb)
      clear hb
      refine hK.out _ _ (HS.out _ D4.out) (fun hHeld => ?_)
      clear hK K
      try simp only [Act.put, List.setIfInBounds_toArray, List.set_cons_zero, List.set_cons_succ]
      refine tk 59 ?_
      refine tk 60 ?_
      refine tk 61 ?_
      clear hHeld
      refine wpAnyH_done (by kernel_rfl) ?_ _
      refine NoPanic.normal ?_
      go_wp2
      go_ret
      exact ⟨rfl, btr BEF.out D4.out⟩
    | false =>
      try dsimp only [List.append]
      refine wp_region_noPanic ?_
      refine wp_region_held_drew (S := (fun W => (W.cell? ⟨w1.heap.size, 0, none⟩ = some (.int .i64 e) ∧ W.cell? ⟨w1.heap.size, 1, none⟩ = some (.int .i64 s) ∧ W.cell? ⟨w1.heap.size, 2, none⟩ = some (.int .i64 a) ∧ W.cell? ⟨w1.heap.size, 3, none⟩ = some (.string t)) ∧ (W.cell? ⟨w5.heap.size, 0, none⟩ = some (.int .i64 e1) ∧ W.cell? ⟨w5.heap.size, 1, none⟩ = some (.int .i64 s1) ∧ W.cell? ⟨w5.heap.size, 2, none⟩ = some (.int .i64 a1) ∧ W.cell? ⟨w5.heap.size, 3, none⟩ = some (.string t1)) ∧ (W.cell? ⟨w15.heap.size, 0, none⟩ = some (.int .i64 ep) ∧ W.cell? ⟨w15.heap.size, 1, none⟩ = some (.slice aa n1 ca) ∧ W.cell? ⟨w15.heap.size, 2, none⟩ = some (.int .i64 N1) ∧ W.cell? ⟨w15.heap.size, 3, none⟩ = some (.int .i64 M1)) ∧ (W.cell? ⟨w17.heap.size, 0, none⟩ = some (.int .i64 ep) ∧ W.cell? ⟨w17.heap.size, 1, none⟩ = some (.slice ab n1 cb) ∧ W.cell? ⟨w17.heap.size, 2, none⟩ = some (.int .i64 N1) ∧ W.cell? ⟨w17.heap.size, 3, none⟩ = some (.int .i64 M1)) ∧ (W.cell? ⟨w21.heap.size, 0, none⟩ = some (.int .i64 ep4) ∧ W.cell? ⟨w21.heap.size, 1, none⟩ = some (.slice ac n2 cc) ∧ W.cell? ⟨w21.heap.size, 2, none⟩ = some (.int .i64 nx4) ∧ W.cell? ⟨w21.heap.size, 3, none⟩ = some (.int .i64 wt4)) ∧ (W.cell? ⟨w23.heap.size, 0, none⟩ = some (.int .i64 ep4) ∧ W.cell? ⟨w23.heap.size, 1, none⟩ = some (.slice ad n2 cd) ∧ W.cell? ⟨w23.heap.size, 2, none⟩ = some (.int .i64 nx4) ∧ W.cell? ⟨w23.heap.size, 3, none⟩ = some (.int .i64 wt4)) ∧ (W.cell? ⟨w13.heap.size, 0, none⟩ = some (.int .i64 ep) ∧ W.cell? ⟨w13.heap.size, 1, none⟩ = some (.slice ga gn gc) ∧ W.cell? ⟨w13.heap.size, 2, none⟩ = some (.int .i64 nx) ∧ W.cell? ⟨w13.heap.size, 3, none⟩ = some (.int .i64 wt)))) (by kernel_rfl) (HS.out _ (bdr (bre _))) (fun hHeld => ?_)
      obtain ⟨x0, hx0⟩ : ∃ x, w24.drew = x := ⟨_, rfl⟩
      have D0 : Hid (Below w24.heap.size w24 x0) := hid (by rw [← hx0]; exact bdr (bre _))
      rw [hx0] at hHeld
      rw [hx0]
      clear hx0
      refine tk 0 ?_
      refine tk 1 ?_
      refine tk 2 ?_
      refine tk 3 ?_
      refine tk 4 ?_
      refine tk 5 ?_
      refine tk 6 ?_
      refine tn 7 ?_
      refine tn 8 ?_
      refine tn 9 ?_
      refine tn 10 ?_
      refine tn 11 ?_
      refine tn 12 ?_
      refine tk 13 ?_
      refine tk 14 ?_
      refine tk 15 ?_
      refine tk 16 ?_
      refine tk 17 ?_
      refine tk 18 ?_
      refine tk 19 ?_
      refine tk 20 ?_
      refine tk 21 ?_
      refine tk 22 ?_
      refine tk 23 ?_
      refine tn 24 ?_
      refine tn 25 ?_
      refine tn 26 ?_
      refine tk 27 ?_
      refine tk 28 ?_
      refine tk 29 ?_
      refine tk 30 ?_
      refine tk 31 ?_
      clear hHeld
      refine ry 32 (fun K hK => ?_)
      go_simp
      refine (CAB.out _ D0.out).mono ?_; rintro z x1 ⟨rfl, hb⟩
      have D1 : Hid (Below w24.heap.size w24 x1) := hid (btr D0.out hb)
      clear hb
      refine hK.out _ _ (HS.out _ D1.out) (fun hHeld => ?_)
      clear hK K
      try simp only [Act.put, List.setIfInBounds_toArray, List.set_cons_zero, List.set_cons_succ]
      refine tk 33 ?_
      refine tk 34 ?_
      refine tk 35 ?_
      refine tk 36 ?_
      refine tk 37 ?_
      refine tk 38 ?_
      refine tk 39 ?_
      refine tk 40 ?_
      refine tk 41 ?_
      refine tk 42 ?_
      refine tk 43 ?_
      refine tk 44 ?_
      refine tk 45 ?_
      refine tk 46 ?_
      refine tk 47 ?_
      refine tk 48 ?_
      refine tk 49 ?_
      refine tk 50 ?_
      refine tk 51 ?_
      clear hHeld
      refine ry 52 (fun K hK => ?_)
      go_simp
      refine (CCD.out _ D1.out).mono ?_; rintro z x2 ⟨rfl, hb⟩
      have D2 : Hid (Below w24.heap.size w24 x2) := hid (btr D1.out hb)
      clear hb
      refine hK.out _ _ (HS.out _ D2.out) (fun hHeld => ?_)
      clear hK K
      try simp only [Act.put, List.setIfInBounds_toArray, List.set_cons_zero, List.set_cons_succ]
      refine tk 53 ?_
      refine tk 54 ?_
      refine tk 55 ?_
      refine tk 57 ?_
      clear hHeld
      refine ry 56 (fun K hK => ?_)
      go_simp
      refine (CIS.out _ D2.out).mono ?_; rintro z x3 ⟨rfl, hb⟩
      have D3 : Hid (Below w24.heap.size w24 x3) := hid (btr D2.out hb)
      clear hb
      refine hK.out _ _ (HS.out _ D3.out) (fun hHeld => ?_)
      clear hK K
      try simp only [Act.put, List.setIfInBounds_toArray, List.set_cons_zero, List.set_cons_succ]
      clear hHeld
      refine ry 58 (fun K hK => ?_)
      go_simp
      refine (CSS.out _ D3.out).mono ?_; rintro z x4 ⟨rfl, hb⟩
      have D4 : Hid (Below w24.heap.size w24 x4) := hid (btr D3.out hb)
      clear hb
      refine hK.out _ _ (HS.out _ D4.out) (fun hHeld => ?_)
      clear hK K
      try simp only [Act.put, List.setIfInBounds_toArray, List.set_cons_zero, List.set_cons_succ]
      refine tk 59 ?_
      refine tk 60 ?_
      refine tk 61 ?_
      clear hHeld
      refine wpAnyH_done (by kernel_rfl) ?_ _
      refine NoPanic.normal ?_
      go_wp2
      go_ret
      exact ⟨rfl, btr BEF.out D4.out⟩
end Go.Proofs.YtnbobidpmiieiaaDoor
