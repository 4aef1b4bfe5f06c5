/- Tiu. -/
import Derived.Test.YtdkedgedkgabnaaGreatDoorX19
namespace Go.Proofs.YtdkedgedkgabnaaGreatDoor
open Go.RowKit Go.ChangeMaps
set_option maxHeartbeats 16000000
set_option maxRecDepth 100000
theorem specRenB_any (lo hh lo' hh':Nat) (y tm:Int) (ba:Option Addr) (bn bc:Nat) (ga:Option Addr) (gn gc:Nat) (S:List X7) (G:List Int) (gid:Int) (nm:ByteArray) (w:World) (hl:S.length=bn) (hn:bn≤1048576) (hsb:Sb S) (hm:Bs lo hh w ba S) (hgl:G.length=gn) (hgn:gn≤1048576) (hs:Is lo' hh' w ga G) (hg0:ga=none→gc=0) (hnm:nm.size≤1048576)
  (ok2:Bool) (h2:(sOk y tm S G&&((chB S gid (rnK nm S) (rnF y tm nm)).1&&sOk y (tm+1) (chB S gid (rnK nm S) (rnF y tm nm)).2 G))=ok2) :
  Calls Tryz.prog 154 #[.agg #[.int .i64 y,.int .i64 tm,.slice ba bn bc,.slice ga gn gc],.int .i64 gid,.string nm] w fun e w'=>∃ bv gv,e=.returned (.tuple #[.agg #[.int .i64 y,.int .i64 (pik ok2 (tm+1) tm),bv,gv],.bool ok2])∧OwT w' w.heap.size bv gv (pik ok2 (chB S gid (rnK nm S) (rnF y tm nm)).2 S) (pik ok2 G G)∧Below w.heap.size w w':=by
 obtain ⟨S1,hS1⟩:∃ S1,(chB S gid (rnK nm S) (rnF y tm nm)).2=S1:=⟨_,rfl⟩;have HS1:=hid hS1;rw [hS1];clear hS1;obtain ⟨q,hq⟩:∃ q,S.any (isN nm)=q:=⟨_,rfl⟩;obtain ⟨zn,hzn⟩:∃ zn,fidx (isN nm) S 0=zn:=⟨_,rfl⟩
 have hqz:decide (0≤zn)=q:=by rw [← hzn,fidx_any,hq]
 have HQN:=hid hq;have HZN:=hid hzn;clear hq hzn;obtain ⟨W0,hW0⟩:∃ W0,(w.alloc (.cells #[.int .i64 y,.int .i64 tm,.slice ba bn bc,.slice ga gn gc] 27)).alloc (.cells #[.int .i64 0,.int .i64 0,.slice none 0 0,.slice none 0 0] 27)=W0:=⟨_,rfl⟩;obtain ⟨a0,r0,b0,s0⟩:=two_stores w _ _ _ _ _ _ _ _ _ _ W0 hW0;obtain ⟨p,hp⟩:∃ p,sOk y tm S G=p:=⟨_,rfl⟩;rw [hp] at h2;have HP:=hid hp;have H2:=hid h2;obtain ⟨zz,hzz⟩:∃ zz,fidx (isG gid) S 0=zz:=⟨_,rfl⟩;have HZ:=hid hzz;have c0:=a0.cells;have A0:=hid a0;have R0:=hid r0;have B0:=hid b0;have S0:=hid s0;have HL:=hid hl;have HN:=hid hn;have HSB:=hid hsb;have HR:=hid hm;have HGL:=hid hgl;have HGN:=hid hgn;have HIS:=hid hs;have HG0:=hid hg0;clear a0 r0 b0 s0 hp h2 hzz hl hn hsb hm hgl hgn hs hg0
 go_enter Tryz.func154,Tryz.ntmps154
 go_wp2_with fail
 clear hW0;refine (l07Copy_any lo hh lo' hh' y tm ba bn bc ga gn gc S G _ HL.out HN.out HSB.out (HR.out.later B0.out) HGL.out HGN.out (HIS.out.later B0.out) HG0.out).mono ?_;rintro e w1 ⟨bv1,gv1,rfl,hot,hb1⟩;obtain ⟨a8,c8,a9,c9,hv8,hv9⟩:=hot.shape;rw [HL.out] at hv8;rw [HGL.out] at hv9;subst hv8;subst hv9;obtain ⟨W2,hW2⟩:∃ W2,w1.alloc (.cells #[.int .i64 y,.int .i64 tm,.slice a8 bn c8,.slice a9 gn c9] 27)=W2:=⟨_,rfl⟩
 have b2:Below w1.heap.size w1 W2:=by subst hW2;exact bpush (bre _) _
 have o2:Sx W2 w1.heap.size 27 y tm (.slice a8 bn c8) (.slice a9 gn c9):=by subst hW2;exact Sx.new _ _ _ _ _ _
 have HN2:=hid ((hot.far (P:=fun j=>j=w1.heap.size∨j=w.heap.size+1) (fun j hj=>by have:=S0.out;omega)).later b2);have A2:=hid (A0.out.later (btr hb1 b2));have R2:=hid (R0.out.later (btr hb1 b2));have B2:=hid (btr B0.out (btr hb1 b2));have O2:=hid o2;have HW1:Hid (W0.heap.size≤w1.heap.size):=hb1.size;obtain ⟨ko,hko⟩:∃ ko,w1.heap.size=ko:=⟨_,rfl⟩;rw [hko] at O2 HN2 HW1;have c2:=A2.out.cells;clear hot hb1 b2 o2 A0 R0 B0 c0
 go_wp2_with fail
 (try rw [hW2])
 clear hW2 hko;refine (specBoxAt_any lo hh y tm ba bn bc (.slice ga gn gc) S gid _ HL.out HN.out (HR.out.later B2.out)).mono ?_;rintro e w3 ⟨rfl,hb3⟩;rw [HZ.out];have A3:=hid (A2.out.later hb3);have R3:=hid (R2.out.later hb3);have B3:=hid (btr B2.out hb3);have O3:=hid (O2.out.later hb3);have HN3:=hid (HN2.out.later hb3);have c0:=A3.out.cells;clear hb3 A2 R2 B2 O2 HN2 c2
 go_wp2_with fail
 refine (specStoreOk_any lo hh lo' hh' y tm ba bn bc ga gn gc S G _ HL.out HN.out HSB.out (HR.out.later B3.out) HGL.out HGN.out (HIS.out.later B3.out)).mono ?_;rintro e w4 ⟨rfl,hb4⟩;rw [HP.out];have A4:=hid (A3.out.later hb4);have R4:=hid (R3.out.later hb4);have B4:=hid (btr B3.out hb4);have O4:=hid (O3.out.later hb4);have HN4:=hid (HN3.out.later hb4);clear hb4 A3 R3 B3 O3 HN3 c0
 cases p
 case false =>
  have HE:Hid (ok2=false):=by show _=_;rw [← H2.out];rfl
  have o9:=O4.out.cells;have q1:=R4.out.cells;have q2:=R4.out.loose;have HK9:=hid R4.out.lt
  go_wp2
  have e2:=put4_grown w4 (w.heap.size+1) y (tm) (.slice a8 bn c8) (.slice a9 gn c9);have d1:=(R4.out.put4 y (tm) (.slice a8 bn c8) (.slice a9 gn c9)).cells;unfold put4 at d1 e2;have hs0:=S0.out;have hk9:=HK9.out;refine bodyPost_ret (v:=.tuple #[.agg #[.int .i64 y,.int .i64 (tm),.slice a8 bn c8,.slice a9 gn c9],.bool false]) (by simp [results,Tryz.results154,go_sem,d1]) rfl ⟨_,_,by rw [HE.out];rfl,?_,?_⟩
  ·rw [HE.out]
   show OwT _ _ _ _ (S) (G)
   exact (HN4.out.set e2 (.inr rfl)).ot.base (by omega)
  have hbs:=B4.out.size;exact B4.out.trans (below_of_grown e2 (by omega) hbs)
 have htm:=sOk_tm HP.out
 rcases fidx_cases (isG gid) S 0 with hneg | ⟨i,hi,hiz,hpi⟩
 ·have HE:Hid (ok2=false):=by show _=_;rw [← H2.out,chB_no hneg];simp
  rw [HZ.out] at hneg;have hneg2:zz<0:=hneg;have o9:=O4.out.cells;have q1:=R4.out.cells;have q2:=R4.out.loose;have HK9:=hid R4.out.lt
  go_wp2
  have e2:=put4_grown w4 (w.heap.size+1) y (tm) (.slice a8 bn c8) (.slice a9 gn c9);have d1:=(R4.out.put4 y (tm) (.slice a8 bn c8) (.slice a9 gn c9)).cells;unfold put4 at d1 e2;have hs0:=S0.out;have hk9:=HK9.out;refine bodyPost_ret (v:=.tuple #[.agg #[.int .i64 y,.int .i64 (tm),.slice a8 bn c8,.slice a9 gn c9],.bool false]) (by simp [results,Tryz.results154,go_sem,d1]) rfl ⟨_,_,by rw [HE.out];rfl,?_,?_⟩
  ·rw [HE.out]
   show OwT _ _ _ _ (S) (G)
   exact (HN4.out.set e2 (.inr rfl)).ot.base (by omega)
  have hbs:=B4.out.size;exact B4.out.trans (below_of_grown e2 (by omega) hbs)
 rw [Nat.zero_add] at hiz;obtain ⟨g,rfl⟩:=HN4.out.ot.addr hi;obtain ⟨x,hx⟩:∃ x,S[i]=x:=⟨_,rfl⟩;have hcb:=chB_at (ok:=rnK nm S) (f:=rnF y tm nm) hiz hi hx;have HX:=hid hx
 have HOK:Hid ((chB S gid (rnK nm S) (rnF y tm nm)).1=!q):=by show _=_;rw [hcb,← HQN.out];rfl
 have HF:Hid (S1=S.set i (rnF y tm nm x)):=by show _=_;rw [← HS1.out,hcb]
 have HET:Hid (q=false→sOk y (tm+1) (S.set i (rnF y tm nm x)) G=ok2):=fun h=>by rw [← H2.out,HOK.out,h,HS1.out,HF.out];simp
 have hmem:=HSB.out S[i] (List.getElem_mem hi);rw [hx] at hmem;have HSBX:Hid (Sb (S.set i (rnF y tm nm x))):=sb_set HSB.out i ⟨hnm,hmem.2.1,hmem.2.2.1,hmem.2.2.2⟩;rw [HZ.out] at hiz
 have hznn:¬ zz<0:=by omega
 subst hiz
 have hib:i<bn:=by rw [← HL.out];exact hi
 have c0:=A4.out.cells;clear hcb hx hmem hpi
 go_wp2_with fail
 refine (specBoxNamed_any lo hh y tm ba bn bc (.slice ga gn gc) S nm _ HL.out HN.out (HR.out.later B4.out)).mono ?_;rintro e w5 ⟨rfl,hb5⟩;rw [HZN.out];have A5:=hid (A4.out.later hb5);have R5:=hid (R4.out.later hb5);have B5:=hid (btr B4.out hb5);have O5:=hid (O4.out.later hb5);have HN5:=hid (HN4.out.later hb5);clear hb5 A4 R4 B4 O4 HN4 c0
 cases q
 case true =>
  have hz:0≤zn:=by simpa using hqz
  have HE:Hid (ok2=false):=by show _=_;rw [← H2.out,HOK.out];simp
  have o9:=O5.out.cells;have q1:=R5.out.cells;have q2:=R5.out.loose;have HK9:=hid R5.out.lt
  go_wp2
  have e2:=put4_grown w5 (w.heap.size+1) y (tm) (.slice (some ⟨g,0,none⟩) bn c8) (.slice a9 gn c9);have d1:=(R5.out.put4 y (tm) (.slice (some ⟨g,0,none⟩) bn c8) (.slice a9 gn c9)).cells;unfold put4 at d1 e2;have hs0:=S0.out;have hk9:=HK9.out;refine bodyPost_ret (v:=.tuple #[.agg #[.int .i64 y,.int .i64 (tm),.slice (some ⟨g,0,none⟩) bn c8,.slice a9 gn c9],.bool false]) (by simp [results,Tryz.results154,go_sem,d1]) rfl ⟨_,_,by rw [HE.out];rfl,?_,?_⟩
  ·rw [HE.out]
   show OwT _ _ _ _ (S) (G)
   exact (HN5.out.set e2 (.inr rfl)).ot.base (by omega)
  have hbs:=B5.out.size;exact B5.out.trans (below_of_grown e2 (by omega) hbs)
 have hz:¬ 0≤zn:=by simpa using hqz
 have HE2:=hid (HET.out rfl)
 have hI:(0:Int)≤(i:Int)∧(i:Int)<(bn:Int):=by omega
 have hbn:=HN.out;have o5:=O5.out.cells;obtain ⟨ma3,mc3,ga3,gc3,d3,e31,e32,e33,e34,f3⟩:=HN5.out.ot.cells i hi;have d3:=d3.2.1;obtain ⟨q2,hq2⟩:∃ q2,S[i].2.1=q2:=⟨_,rfl⟩;rw [hq2] at d3;obtain ⟨W6,hW6⟩:∃ W6,w5.setCell ⟨g,i*7+1,none⟩ (.string nm)=W6:=⟨_,rfl⟩
 have g6:w5.grownBy W6 (some g):=by subst hW6;exact wst (wre _ _) _ _
 have hgl:=HN5.out.lt;have hs0:=S0.out;have hw1:=HW1.out;have hgko:g≠ko:=fun e=>hgl.2.2 (.inl e);have A6:=hid (A5.out.off g6 (by omega));have R6:=hid (R5.out.off g6 (by omega));have O6:=hid (O5.out.off g6 (fun e=>hgko e.symm));have B6:Hid (Below w.heap.size w W6):=B5.out.trans (below_of_grown g6 (by omega) B5.out.size)
 have HN6:Hid (OwN W6 W0.heap.size (fun j=>j=ko∨j=w.heap.size+1) (.slice (some ⟨g,0,none⟩) bn c8) (.slice a9 gn c9) (S.set i (x.1,nm,x.2.2)) G):=by subst hW6;exact HN5.out.name i hi nm HX.out
 have hi5:i<(S.set i (x.1,nm,x.2.2)).length:=by rw [List.length_set];exact hi
 have HI5:=hid hi5;have HS6:Hid (∀ W,Below W6.heap.size W6 W→(W.cell? ⟨w.heap.size,0,none⟩=some (.int .i64 y)∧W.cell? ⟨w.heap.size,1,none⟩=some (.int .i64 tm)∧W.cell? ⟨w.heap.size,2,none⟩=some (.slice ba bn bc)∧W.cell? ⟨w.heap.size,3,none⟩=some (.slice ga gn gc))∧(W.cell? ⟨ko,0,none⟩=some (.int .i64 y)∧W.cell? ⟨ko,1,none⟩=some (.int .i64 tm)∧W.cell? ⟨ko,2,none⟩=some (.slice (some ⟨g,0,none⟩) bn c8)∧W.cell? ⟨ko,3,none⟩=some (.slice a9 gn c9))):=fun W hb=>⟨(A6.out.later hb).cells,(O6.out.later hb).cells⟩;clear e31 e32 e33 e34 hq2 g6 hgl hs0 hw1 hgko A5 R5 O5 B5 HN5 hqz HET hi5
 go_wp2_with fail
 (try rw [hW6])
 clear hW6 d3 f3 o5;refine wp_region_noPanic ?_;refine wp_region_held_drew (S:=(fun W=>(W.cell? ⟨w.heap.size,0,none⟩=some (.int .i64 y)∧W.cell? ⟨w.heap.size,1,none⟩=some (.int .i64 tm)∧W.cell? ⟨w.heap.size,2,none⟩=some (.slice ba bn bc)∧W.cell? ⟨w.heap.size,3,none⟩=some (.slice ga gn gc))∧(W.cell? ⟨ko,0,none⟩=some (.int .i64 y)∧W.cell? ⟨ko,1,none⟩=some (.int .i64 tm)∧W.cell? ⟨ko,2,none⟩=some (.slice (some ⟨g,0,none⟩) bn c8)∧W.cell? ⟨ko,3,none⟩=some (.slice a9 gn c9)))) (by kernel_rfl) (HS6.out _ (bdr (bre _))) (fun hHeld=>?_);refine tk 0 ?_;refine tk 1 ?_;refine tk 2 ?_;refine tk 3 ?_;clear hHeld;refine ry 4 (fun K hK=>?_);go_simp;refine (specNextStamp_any y tm _ _ _ (by omega)).mono ?_;rintro e w7 ⟨rfl,hb7⟩;have hb67:Below W6.heap.size W6 w7:=btr (bdr (bre _)) hb7;have HN7:=hid (HN6.out.later hb67);have A7:=hid (A6.out.later hb67);have R7:=hid (R6.out.later hb67);have O7:=hid (O6.out.later hb67);have B7:=hid (btr B6.out hb67);obtain ⟨ma5,mc5,ga5,gc5,d5,e51,e52,e53,e54,f5⟩:=HN7.out.ot.cells i HI5.out;have d5a:=d5.2.2.1;have d5b:=d5.2.2.2.1;obtain ⟨q3,hq3⟩:∃ q3,((S.set i (x.1,nm,x.2.2))[i]'HI5.out).2.2.1=q3:=⟨_,rfl⟩;obtain ⟨q4,hq4⟩:∃ q4,((S.set i (x.1,nm,x.2.2))[i]'HI5.out).2.2.2.1=q4:=⟨_,rfl⟩;rw [hq3] at d5a;rw [hq4] at d5b
 have HN8:Hid (OwN ((w7.setCell ⟨g,i*7+2,none⟩ (.int .i64 (tm+1))).setCell ⟨g,i*7+3,none⟩ (.int .i64 y)) W0.heap.size (fun j=>j=ko∨j=w.heap.size+1) (.slice (some ⟨g,0,none⟩) bn c8) (.slice a9 gn c9) (S.set i (rnF y tm nm x)) G):=by
  have h:=HN7.out.stamp i HI5.out (tm+1) y (x:=(x.1,nm,x.2.2)) (by simp);rw [List.set_set] at h;exact h
 have g8:w7.grownBy ((w7.setCell ⟨g,i*7+2,none⟩ (.int .i64 (tm+1))).setCell ⟨g,i*7+3,none⟩ (.int .i64 y)) (some g):=wst (wst (wre _ _) _ _) _ _;have hgl:=HN7.out.lt;have hs0:=S0.out;have hw1:=HW1.out;have hgko:g≠ko:=fun e=>hgl.2.2 (.inl e);have A8:=hid (A7.out.off g8 (by omega));have R8:=hid (R7.out.off g8 (by omega));have O8:=hid (O7.out.off g8 (fun e=>hgko e.symm));have B8:Hid (Below w.heap.size w _):=B7.out.trans (below_of_grown g8 (by omega) B7.out.size);have HS8:=hid (And.intro A8.out.cells O8.out.cells);have hb77:=hb7;clear d5 hq3 hq4 e51 e52 e53 e54 hb7 hb67 g8 hgl hs0 hw1 hgko HN7 A7 R7 O7 B7
 go_wp2_with fail
 refine hK.out _ _ (HS6.out _ (btr (bdr (bre _)) hb77)) (fun hHeld=>?_);clear hK K;try simp only [Act.put,tq]
 refine tk 5 ?_;refine tk 6 ?_;clear hHeld;refine ry 7 (fun K hK=>?_);go_simp;refine hK.out _ _ (HS8.out) (fun hHeld=>?_);clear hK K;try simp only [Act.put,tq]
 refine dn ?_;clear hHeld;obtain ⟨W8,hW8⟩:∃ W8,((w7.setCell ⟨g,i*7+2,none⟩ (.int .i64 (tm+1))).setCell ⟨g,i*7+3,none⟩ (.int .i64 y))=W8:=⟨_,rfl⟩;rw [hW8] at HN8 A8 R8 O8 B8 HS8 ⊢;have c8':=A8.out.cells;have o8:=O8.out.cells;have p8:=O8.out.loose;obtain ⟨W9,hW9⟩:∃ W9,W8.setCell ⟨ko,1,none⟩ (.int .i64 (tm+1))=W9:=⟨_,rfl⟩
 have g9:W8.grownBy W9 (some ko):=by subst hW9;exact wst (wre _ _) _ _
 have O9:Hid (Sx W9 ko 27 y (tm+1) (.slice (some ⟨g,0,none⟩) bn c8) (.slice a9 gn c9)):=by subst hW9;exact O8.out.s1 _
 have hs0:=S0.out;have hw1:=HW1.out;have A9:=hid (A8.out.off g9 (by omega));have R9:=hid (R8.out.off g9 (by omega));have HN9:=hid (HN8.out.set g9 (.inl rfl));have B9:Hid (Below w.heap.size w W9):=B8.out.trans (below_of_grown g9 (by omega) B8.out.size);have o9':=O9.out.cells;have HRD:=hid HN9.out.ot.reads
 have HL1:Hid ((S.set i (rnF y tm nm x)).length=bn):=by show _=_;rw [List.length_set];exact HL.out
 clear hs0 hw1 g9 d5a d5b f5 hb77
 go_wp2_with fail
 (try rw [hW9])
 clear hW9 hW8 c8' o8 p8 A8 R8 O8 B8 HN8 HS8 HS6 A6 R6 O6 B6 HN6;refine (specStoreOk_any _ _ _ _ y (tm+1) (some ⟨g,0,none⟩) bn c8 a9 gn c9 (S.set i (rnF y tm nm x)) G _ HL1.out HN.out HSBX.out HRD.out.2.2.1 HGL.out HGN.out HRD.out.2.2.2).mono ?_;rintro e wa ⟨rfl,hba⟩;rw [HE2.out];have Aa:=hid (A9.out.later hba);have Ra:=hid (R9.out.later hba);have Oa:=hid (O9.out.later hba);have Ba:=hid (btr B9.out hba);have HNa:=hid (HN9.out.later hba);clear hba o9' A9 R9 O9 B9 HN9 HRD
 cases ok2
 ·have HE:Hid (false=pik false true false):=rfl
  have c0:=Aa.out.cells
  go_wp2_with fail
  refine (l07Copy_any lo hh lo' hh' y tm ba bn bc ga gn gc S G _ HL.out HN.out HSB.out (HR.out.later Ba.out) HGL.out HGN.out (HIS.out.later Ba.out) HG0.out).mono ?_;rintro e w8 ⟨bv,gv,rfl,hot,hb8⟩;obtain ⟨a8,c8,a9,c9,hv8,hv9⟩:=hot.shape;rw [HL.out] at hv8;rw [HGL.out] at hv9;subst hv8;subst hv9;have r8:=Ra.out.later hb8;have q1:=r8.cells;have q2:=r8.loose;have R8:=hid r8;have O8:=hid hot;have HK8:=hid Ra.out.lt;have B8:=hid (btr Ba.out hb8);clear r8 hot hb8 c0
  go_wp2
  have e2:=put4_grown w8 (w.heap.size+1) y tm (.slice a8 bn c8) (.slice a9 gn c9);have d1:=(R8.out.put4 y tm (.slice a8 bn c8) (.slice a9 gn c9)).cells;unfold put4 at d1 e2;have hk8:=HK8.out;refine bodyPost_ret (v:=.tuple #[.agg #[.int .i64 y,.int .i64 tm,.slice a8 bn c8,.slice a9 gn c9],.bool false]) (by simp [results,Tryz.results154,go_sem,d1]) rfl ⟨_,_,rfl,?_,?_⟩
  ·show OwT _ _ _ _ S G
   exact (O8.out.grown e2 (by omega)).base (by omega)
  have hbs:=B8.out.size;exact B8.out.trans (below_of_grown e2 (by omega) hbs)
 skip
 have o9:=Oa.out.cells;have q1:=Ra.out.cells;have q2:=Ra.out.loose;have HK9:=hid Ra.out.lt
 go_wp2
 have e2:=put4_grown wa (w.heap.size+1) y (tm+1) (.slice (some ⟨g,0,none⟩) bn c8) (.slice a9 gn c9);have d1:=(Ra.out.put4 y (tm+1) (.slice (some ⟨g,0,none⟩) bn c8) (.slice a9 gn c9)).cells;unfold put4 at d1 e2;have hs0:=S0.out;have hk9:=HK9.out;refine bodyPost_ret (v:=.tuple #[.agg #[.int .i64 y,.int .i64 (tm+1),.slice (some ⟨g,0,none⟩) bn c8,.slice a9 gn c9],.bool true]) (by simp [results,Tryz.results154,go_sem,d1]) rfl ⟨_,_,rfl,?_,?_⟩
 ·rw [HF.out]
  show OwT _ _ _ _ (S.set i (rnF y tm nm x)) (G)
  exact (HNa.out.set e2 (.inr rfl)).ot.base (by omega)
 have hbs:=Ba.out.size;exact Ba.out.trans (below_of_grown e2 (by omega) hbs)
theorem specDropM_any (lo hh lo' hh':Nat) (y tm:Int) (ba:Option Addr) (bn bc:Nat) (ga:Option Addr) (gn gc:Nat) (S:List X7) (G:List Int) (box gid:Int) (w:World) (hl:S.length=bn) (hn:bn≤1048576) (hsb:Sb S) (hm:Bs lo hh w ba S) (hgl:G.length=gn) (hgn:gn≤1048576) (hs:Is lo' hh' w ga G) (hg0:ga=none→gc=0)
  (ok2:Bool) (h2:(sOk y tm S G&&(chB S box (dmK gid) (dmF gid)).1)=ok2) :
  Calls Tryz.prog 153 #[.agg #[.int .i64 y,.int .i64 tm,.slice ba bn bc,.slice ga gn gc],.int .i64 box,.int .i64 gid] w fun e w'=>∃ bv gv,e=.returned (.tuple #[.agg #[.int .i64 y,.int .i64 (pik ok2 tm tm),bv,gv],.bool ok2])∧OwT w' w.heap.size bv gv (pik ok2 (chB S box (dmK gid) (dmF gid)).2 S) (pik ok2 G G)∧Below w.heap.size w w':=by
 obtain ⟨S1,hS1⟩:∃ S1,(chB S box (dmK gid) (dmF gid)).2=S1:=⟨_,rfl⟩;have HS1:=hid hS1;rw [hS1];clear hS1;obtain ⟨W0,hW0⟩:∃ W0,(w.alloc (.cells #[.int .i64 y,.int .i64 tm,.slice ba bn bc,.slice ga gn gc] 27)).alloc (.cells #[.int .i64 0,.int .i64 0,.slice none 0 0,.slice none 0 0] 27)=W0:=⟨_,rfl⟩;obtain ⟨a0,r0,b0,s0⟩:=two_stores w _ _ _ _ _ _ _ _ _ _ W0 hW0;obtain ⟨p,hp⟩:∃ p,sOk y tm S G=p:=⟨_,rfl⟩;rw [hp] at h2;have HP:=hid hp;have H2:=hid h2;obtain ⟨zz,hzz⟩:∃ zz,fidx (isG box) S 0=zz:=⟨_,rfl⟩;have HZ:=hid hzz;have c0:=a0.cells;have A0:=hid a0;have R0:=hid r0;have B0:=hid b0;have S0:=hid s0;have HL:=hid hl;have HN:=hid hn;have HSB:=hid hsb;have HR:=hid hm;have HGL:=hid hgl;have HGN:=hid hgn;have HIS:=hid hs;have HG0:=hid hg0;clear a0 r0 b0 s0 hp h2 hzz hl hn hsb hm hgl hgn hs hg0
 go_enter Tryz.func153,Tryz.ntmps153
 go_wp2_with fail
 clear hW0;refine (l07Copy_any lo hh lo' hh' y tm ba bn bc ga gn gc S G _ HL.out HN.out HSB.out (HR.out.later B0.out) HGL.out HGN.out (HIS.out.later B0.out) HG0.out).mono ?_;rintro e w1 ⟨bv1,gv1,rfl,hot,hb1⟩;obtain ⟨a8,c8,a9,c9,hv8,hv9⟩:=hot.shape;rw [HL.out] at hv8;rw [HGL.out] at hv9;subst hv8;subst hv9;obtain ⟨W2,hW2⟩:∃ W2,w1.alloc (.cells #[.int .i64 y,.int .i64 tm,.slice a8 bn c8,.slice a9 gn c9] 27)=W2:=⟨_,rfl⟩
 have b2:Below w1.heap.size w1 W2:=by subst hW2;exact bpush (bre _) _
 have o2:Sx W2 w1.heap.size 27 y tm (.slice a8 bn c8) (.slice a9 gn c9):=by subst hW2;exact Sx.new _ _ _ _ _ _
 have HN2:=hid ((hot.far (P:=fun j=>j=w1.heap.size∨j=w.heap.size+1) (fun j hj=>by have:=S0.out;omega)).later b2);have A2:=hid (A0.out.later (btr hb1 b2));have R2:=hid (R0.out.later (btr hb1 b2));have B2:=hid (btr B0.out (btr hb1 b2));have O2:=hid o2;have HW1:Hid (W0.heap.size≤w1.heap.size):=hb1.size;obtain ⟨ko,hko⟩:∃ ko,w1.heap.size=ko:=⟨_,rfl⟩;rw [hko] at O2 HN2 HW1;have c2:=A2.out.cells;clear hot hb1 b2 o2 A0 R0 B0 c0
 go_wp2_with fail
 (try rw [hW2])
 clear hW2 hko;refine (specBoxAt_any lo hh y tm ba bn bc (.slice ga gn gc) S box _ HL.out HN.out (HR.out.later B2.out)).mono ?_;rintro e w3 ⟨rfl,hb3⟩;rw [HZ.out];have A3:=hid (A2.out.later hb3);have R3:=hid (R2.out.later hb3);have B3:=hid (btr B2.out hb3);have O3:=hid (O2.out.later hb3);have HN3:=hid (HN2.out.later hb3);have c0:=A3.out.cells;clear hb3 A2 R2 B2 O2 HN2 c2
 go_wp2_with fail
 refine (specStoreOk_any lo hh lo' hh' y tm ba bn bc ga gn gc S G _ HL.out HN.out HSB.out (HR.out.later B3.out) HGL.out HGN.out (HIS.out.later B3.out)).mono ?_;rintro e w4 ⟨rfl,hb4⟩;rw [HP.out];have A4:=hid (A3.out.later hb4);have R4:=hid (R3.out.later hb4);have B4:=hid (btr B3.out hb4);have O4:=hid (O3.out.later hb4);have HN4:=hid (HN3.out.later hb4);clear hb4 A3 R3 B3 O3 HN3 c0
 cases p
 case false =>
  have HE:Hid (ok2=false):=by show _=_;rw [← H2.out];rfl
  have o9:=O4.out.cells;have q1:=R4.out.cells;have q2:=R4.out.loose;have HK9:=hid R4.out.lt
  go_wp2
  have e2:=put4_grown w4 (w.heap.size+1) y (tm) (.slice a8 bn c8) (.slice a9 gn c9);have d1:=(R4.out.put4 y (tm) (.slice a8 bn c8) (.slice a9 gn c9)).cells;unfold put4 at d1 e2;have hs0:=S0.out;have hk9:=HK9.out;refine bodyPost_ret (v:=.tuple #[.agg #[.int .i64 y,.int .i64 (tm),.slice a8 bn c8,.slice a9 gn c9],.bool false]) (by simp [results,Tryz.results153,go_sem,d1]) rfl ⟨_,_,by rw [HE.out];rfl,?_,?_⟩
  ·rw [HE.out]
   show OwT _ _ _ _ (S) (G)
   exact (HN4.out.set e2 (.inr rfl)).ot.base (by omega)
  have hbs:=B4.out.size;exact B4.out.trans (below_of_grown e2 (by omega) hbs)
 have htm:=sOk_tm HP.out
 rcases fidx_cases (isG box) S 0 with hneg | ⟨i,hi,hiz,hpi⟩
 ·have HE:Hid (ok2=false):=by show _=_;rw [← H2.out,chB_no hneg];simp
  rw [HZ.out] at hneg;have hneg2:zz<0:=hneg;have o9:=O4.out.cells;have q1:=R4.out.cells;have q2:=R4.out.loose;have HK9:=hid R4.out.lt
  go_wp2
  have e2:=put4_grown w4 (w.heap.size+1) y (tm) (.slice a8 bn c8) (.slice a9 gn c9);have d1:=(R4.out.put4 y (tm) (.slice a8 bn c8) (.slice a9 gn c9)).cells;unfold put4 at d1 e2;have hs0:=S0.out;have hk9:=HK9.out;refine bodyPost_ret (v:=.tuple #[.agg #[.int .i64 y,.int .i64 (tm),.slice a8 bn c8,.slice a9 gn c9],.bool false]) (by simp [results,Tryz.results153,go_sem,d1]) rfl ⟨_,_,by rw [HE.out];rfl,?_,?_⟩
  ·rw [HE.out]
   show OwT _ _ _ _ (S) (G)
   exact (HN4.out.set e2 (.inr rfl)).ot.base (by omega)
  have hbs:=B4.out.size;exact B4.out.trans (below_of_grown e2 (by omega) hbs)
 rw [Nat.zero_add] at hiz;obtain ⟨g,rfl⟩:=HN4.out.ot.addr hi;obtain ⟨x,hx⟩:∃ x,S[i]=x:=⟨_,rfl⟩;have hcb:=chB_at (ok:=dmK gid) (f:=dmF gid) hiz hi hx
 have HF:Hid (S1=S.set i (dmF gid x)):=by show _=_;rw [← HS1.out,hcb]
 obtain ⟨okx,hokx⟩:∃ okx,dmK gid x=okx:=⟨_,rfl⟩
 have HOK2:Hid (okx=ok2):=by show _=_;rw [← H2.out,hcb,← hokx];simp
 have hmem:=HSB.out S[i] (List.getElem_mem hi);rw [HZ.out] at hiz
 have hznn:¬ zz<0:=by omega
 subst hiz
 have hib:i<bn:=by rw [← HL.out];exact hi
 obtain ⟨k0,o0,ma0,mc0,la0,lc0,rfl,hk0,d0,hms0,his0,_,hz0⟩:=HR.out.at hi;rw [hx] at d0 hms0 his0 hmem;obtain ⟨g0,nm0,t0,b0,nx0,L0,G0⟩:=x;dsimp only at d0 hms0 his0 hmem;obtain ⟨K5,hK5⟩:∃ K5,(dmF gid (g0,nm0,t0,b0,nx0,L0,G0)).2.2.2.2.2.1=K5:=⟨_,rfl⟩;obtain ⟨H5,hH5⟩:∃ H5,(dmF gid (g0,nm0,t0,b0,nx0,L0,G0)).2.2.2.2.2.2=H5:=⟨_,rfl⟩
 have hF5:dmF gid (g0,nm0,t0,b0,nx0,L0,G0)=(g0,nm0,t0,b0,nx0,K5,H5):=by rw [← hK5,← hH5];rfl
 rw [hF5] at HF
 have HCALL:Hid (∀ W,Below w.heap.size w W→Calls Tryz.prog 134 #[.agg #[.int .i64 g0,.string nm0,.int .i64 t0,.int .i64 b0,.int .i64 nx0,.slice ma0 L0.length mc0,.slice la0 G0.length lc0],.int .i64 gid] W fun e W'=>∃ mv gv,e=.returned (.tuple #[.agg #[.int .i64 g0,.string nm0,.int .i64 t0,.int .i64 b0,.int .i64 nx0,mv,gv],.bool okx])∧OwB W' W.heap.size mv gv K5 H5∧Below W.heap.size W W'):=fun W hbW=>by
  have h:=specTake_any lo hh lo hh g0 nm0 t0 b0 nx0 ma0 _ mc0 la0 _ lc0 L0 G0 gid W hmem.1 rfl hmem.2.1 hmem.2.2.1 (hms0.later hbW) rfl hmem.2.2.2 (his0.later hbW) hz0;rw [← hK5,← hH5,← hokx];exact h
 have d4:=d0.later hk0 B4.out;obtain ⟨m0,hm0⟩:∃ m0,L0.length=m0:=⟨_,rfl⟩;obtain ⟨n0,hn0⟩:∃ n0,G0.length=n0:=⟨_,rfl⟩;rw [hm0,hn0] at d4 HCALL;unfold C7 at d4
 have hI:(0:Int)≤(i:Int)∧(i:Int)<(bn:Int):=by omega
 have hbn:=HN.out;have c0:=A4.out.cells;clear hcb hx hmem hpi hms0 his0 hz0 d0 hk0 hm0 hn0 hK5 hH5 hF5 hokx
 go_wp2_with fail
 refine (HCALL.out _ B4.out).mono ?_;rintro e w5 ⟨mv5,gv5,rfl,how,hb5⟩;have hox:=how.owx;obtain ⟨a2,c2,a3,c3,hv2,hv3,_⟩:=hox.reads;obtain ⟨m2,hm2⟩:∃ m2,K5.length=m2:=⟨_,rfl⟩;obtain ⟨n2,hn2⟩:∃ n2,H5.length=n2:=⟨_,rfl⟩;rw [hm2] at hv2;rw [hn2] at hv3;subst hv2;subst hv3;have HOX:=hid (show OwX w5 w4.heap.size w5.heap.size (.slice a2 m2 c2) (.slice a3 n2 c3) K5 H5 from hox);obtain ⟨WA,hWA⟩:∃ WA,w5.alloc (.cells #[.int .i64 g0,.string nm0,.int .i64 t0,.int .i64 b0,.int .i64 nx0,.slice a2 m2 c2,.slice a3 n2 c3] 38)=WA:=⟨_,rfl⟩
 have bA:Below w5.heap.size w5 WA:=by subst hWA;exact bpush (bre _) _
 have xA:Bx WA w5.heap.size 38 g0 nm0 t0 b0 nx0 (.slice a2 m2 c2) (.slice a3 n2 c3):=by subst hWA;exact Bx.new _ _ _ _ _ _ _ _ _
 have HB4A:=hid (btr hb5 bA);have HOXA:=hid (HOX.out.later bA);have OA:=hid (O4.out.later (btr hb5 bA));have RA:=hid (R4.out.later (btr hb5 bA));have BA:=hid (btr B4.out (btr hb5 bA));have HNA:=hid (HN4.out.later (btr hb5 bA));have HK4:=hid O4.out.lt;have HR4:=hid R4.out.lt;clear hox how hm2 hn2 hb5 bA HOX HCALL A4 d4 c0
 cases okx
 ·have HE:Hid (ok2=false):=HOK2.out.symm
  have xc:=xA.cells;have o9:=OA.out.cells;have q1:=RA.out.cells;have q2:=RA.out.loose;have HK9:=hid RA.out.lt
  go_wp2
  have e2:=put4_grown WA (w.heap.size+1) y (tm) (.slice (some ⟨g,0,none⟩) bn c8) (.slice a9 gn c9);have d1:=(RA.out.put4 y (tm) (.slice (some ⟨g,0,none⟩) bn c8) (.slice a9 gn c9)).cells;unfold put4 at d1 e2;have hs0:=S0.out;have hk9:=HK9.out;refine bodyPost_ret (v:=.tuple #[.agg #[.int .i64 y,.int .i64 (tm),.slice (some ⟨g,0,none⟩) bn c8,.slice a9 gn c9],.bool false]) (by simp [results,Tryz.results153,go_sem,d1]) rfl ⟨_,_,by rw [HE.out];rfl,?_,?_⟩
  ·rw [HE.out]
   show OwT _ _ _ _ (S) (G)
   exact (HNA.out.set e2 (.inr rfl)).ot.base (by omega)
  have hbs:=BA.out.size;exact BA.out.trans (below_of_grown e2 (by omega) hbs)
 have HE:Hid (ok2=true):=HOK2.out.symm;have xc:=xA.cells;have oA:=OA.out.cells;obtain ⟨ma3,mc3,ga3,gc3,e0,e31,e32,e33,e34,f3⟩:=HNA.out.ot.cells i hi;obtain ⟨qq,hqq⟩:∃ qq,S[i]=qq:=⟨_,rfl⟩;rw [hqq] at e0;obtain ⟨z1,z2,z3,z4,z5,z6,z7⟩:=qq;dsimp only at e0;obtain ⟨m5,hm5⟩:∃ m5,z6.length=m5:=⟨_,rfl⟩;obtain ⟨n5,hn5⟩:∃ n5,z7.length=n5:=⟨_,rfl⟩;rw [hm5,hn5] at e0;unfold C7 at e0;clear e31 e32 e33 e34 hqq hm5 hn5;obtain ⟨W9,hW9⟩:∃ W9,((((((WA.setCell ⟨g,i*7,none⟩ (.int .i64 g0)).setCell ⟨g,i*7+1,none⟩ (.string nm0)).setCell ⟨g,i*7+2,none⟩ (.int .i64 t0)).setCell ⟨g,i*7+3,none⟩ (.int .i64 b0)).setCell ⟨g,i*7+4,none⟩ (.int .i64 nx0)).setCell ⟨g,i*7+5,none⟩ (.slice a2 m2 c2)).setCell ⟨g,i*7+6,none⟩ (.slice a3 n2 c3)=W9:=⟨_,rfl⟩
 have g9:WA.grownBy W9 (some g):=by subst hW9;exact put7_grown WA g (i*7) ⟨g0,nm0,t0,b0,nx0,.slice a2 m2 c2,.slice a3 n2 c3,K5,H5,w4.heap.size,w5.heap.size⟩
 have HN9:Hid (OwN W9 W0.heap.size (fun j=>j=ko∨j=w.heap.size+1) (.slice (some ⟨g,0,none⟩) bn c8) (.slice a9 gn c9) (S.set i (g0,nm0,t0,b0,nx0,K5,H5)) G):=by
  subst hW9;have h1:=HK4.out;have h2:=HR4.out;have h3:=HW1.out;exact HN4.out.putn HB4A.out i hi ⟨g0,nm0,t0,b0,nx0,.slice a2 m2 c2,.slice a3 n2 c3,K5,H5,w4.heap.size,w5.heap.size⟩ HOXA.out (by omega) (Nat.le_refl _) (fun j j1 j2 hp=>by have j3:w4.heap.size≤j:=j1;omega)
 have hgl:=HNA.out.lt;have hs0:=S0.out;have hw1:=HW1.out;have hgko:g≠ko:=fun e=>hgl.2.2 (.inl e);have R9:=hid (RA.out.off g9 (by omega));have O9:=hid (OA.out.off g9 (fun e=>hgko e.symm));have B9:Hid (Below w.heap.size w W9):=BA.out.trans (below_of_grown g9 (by omega) BA.out.size);have o9z:=O9.out.cells;have q1z:=R9.out.cells;have q2z:=R9.out.loose;clear hgl hs0 hw1 hgko g9;have o9:=O9.out.cells;have q1:=R9.out.cells;have q2:=R9.out.loose;have HK9:=hid R9.out.lt
 go_wp2
 have e2:=put4_grown W9 (w.heap.size+1) y (tm) (.slice (some ⟨g,0,none⟩) bn c8) (.slice a9 gn c9);have d1:=(R9.out.put4 y (tm) (.slice (some ⟨g,0,none⟩) bn c8) (.slice a9 gn c9)).cells;unfold put4 at d1 e2;have hs0:=S0.out;have hk9:=HK9.out;refine bodyPost_ret (v:=.tuple #[.agg #[.int .i64 y,.int .i64 (tm),.slice (some ⟨g,0,none⟩) bn c8,.slice a9 gn c9],.bool true]) (by simp [results,Tryz.results153,go_sem,d1]) rfl ⟨_,_,by rw [HE.out];rfl,?_,?_⟩
 ·rw [HE.out,HF.out]
  show OwT _ _ _ _ (S.set i (g0,nm0,t0,b0,nx0,K5,H5)) (G)
  exact (HN9.out.set e2 (.inr rfl)).ot.base (by omega)
 have hbs:=B9.out.size;exact B9.out.trans (below_of_grown e2 (by omega) hbs)
end Go.Proofs.YtdkedgedkgabnaaGreatDoor
