/- Tit. -/
import Derived.Test.YtdkedgedkgabnaaGreatDoorX20
namespace Go.Proofs.YtdkedgedkgabnaaGreatDoor
open Go.RowKit Go.ChangeMaps
set_option maxHeartbeats 16000000
set_option maxRecDepth 100000
theorem specPutM_any (lo hh lo' hh':Nat) (y tm:Int) (ba:Option Addr) (bn bc:Nat) (ga:Option Addr) (gn gc:Nat) (S:List X7) (G:List Int) (box gid fl:Int) (tx:ByteArray) (w:World) (hl:S.length=bn) (hn:bn≤1048576) (hsb:Sb S) (hm:Bs lo hh w ba S) (hgl:G.length=gn) (hgn:gn≤1048576) (hs:Is lo' hh' w ga G) (hg0:ga=none→gc=0) (htx:tx.size≤1048576)
  (ok2:Bool) (h2:(sOk y tm S G&&((!kno gid S G&&(chB S box (pmK y tm gid fl tx) (pmF y tm gid fl tx)).1)&&sOk y (tm+1) (chB S box (pmK y tm gid fl tx) (pmF y tm gid fl tx)).2 G))=ok2) :
  Calls Tryz.prog 151 #[.agg #[.int .i64 y,.int .i64 tm,.slice ba bn bc,.slice ga gn gc],.int .i64 box,.int .i64 gid,.int .i64 fl,.string tx] w fun e w'=>∃ bv gv,e=.returned (.tuple #[.agg #[.int .i64 y,.int .i64 (pik ok2 (tm+1) tm),bv,gv],.bool ok2])∧OwT w' w.heap.size bv gv (pik ok2 (chB S box (pmK y tm gid fl tx) (pmF y tm gid fl tx)).2 S) (pik ok2 G G)∧Below w.heap.size w w':=by
 obtain ⟨W0,hW0⟩:∃ W0,(w.alloc (.cells #[.int .i64 y,.int .i64 tm,.slice ba bn bc,.slice ga gn gc] 27)).alloc (.cells #[.int .i64 0,.int .i64 0,.slice none 0 0,.slice none 0 0] 27)=W0:=⟨_,rfl⟩;obtain ⟨a0,r0,b0,s0⟩:=two_stores w _ _ _ _ _ _ _ _ _ _ W0 hW0;obtain ⟨p,hp⟩:∃ p,sOk y tm S G=p:=⟨_,rfl⟩;rw [hp] at h2;have HP:=hid hp;have H2:=hid h2;obtain ⟨zz,hzz⟩:∃ zz,fidx (isG box) S 0=zz:=⟨_,rfl⟩;have HZ:=hid hzz;obtain ⟨S1,hS1⟩:∃ S1,(chB S box (pmK y tm gid fl tx) (pmF y tm gid fl tx)).2=S1:=⟨_,rfl⟩;have HS1:=hid hS1;rw [hS1];obtain ⟨q,hq⟩:∃ q,kno gid S G=q:=⟨_,rfl⟩;have HQK:=hid hq;clear hq;have c0:=a0.cells;have A0:=hid a0;have R0:=hid r0;have B0:=hid b0;have S0:=hid s0;have HL:=hid hl;have HN:=hid hn;have HSB:=hid hsb;have HR:=hid hm;have HGL:=hid hgl;have HGN:=hid hgn;have HIS:=hid hs;have HG0:=hid hg0;clear a0 r0 b0 s0 hp h2 hzz hS1 hl hn hsb hm hgl hgn hs hg0
 go_enter Tryz.func151,Tryz.ntmps151
 go_wp2_with fail
 clear hW0;refine (specBoxAt_any lo hh y tm ba bn bc (.slice ga gn gc) S box _ HL.out HN.out (HR.out.later B0.out)).mono ?_;rintro e w1 ⟨rfl,hb1⟩;rw [HZ.out];have A1:=hid (A0.out.later hb1);have R1:=hid (R0.out.later hb1);have B1:=hid (btr B0.out hb1);have c0:=A1.out.cells;clear hb1 A0 R0 B0
 go_wp2_with fail
 refine (specStoreOk_any lo hh lo' hh' y tm ba bn bc ga gn gc S G _ HL.out HN.out HSB.out (HR.out.later B1.out) HGL.out HGN.out (HIS.out.later B1.out)).mono ?_;rintro e w2 ⟨rfl,hb2⟩;rw [HP.out];have A2:=hid (A1.out.later hb2);have R2:=hid (R1.out.later hb2);have B2:=hid (btr B1.out hb2);clear hb2 A1 R1 B1 c0
 cases p
 case false =>
  have HE:Hid (ok2=false):=by show _=_;rw [← H2.out];rfl
  have c0:=A2.out.cells
  go_wp2_with fail
  refine (l07Copy_any lo hh lo' hh' y tm ba bn bc ga gn gc S G _ HL.out HN.out HSB.out (HR.out.later B2.out) HGL.out HGN.out (HIS.out.later B2.out) HG0.out).mono ?_;rintro e w8 ⟨bv,gv,rfl,hot,hb8⟩;obtain ⟨a8,c8,a9,c9,hv8,hv9⟩:=hot.shape;rw [HL.out] at hv8;rw [HGL.out] at hv9;subst hv8;subst hv9;have r8:=R2.out.later hb8;have q1:=r8.cells;have q2:=r8.loose;have R8:=hid r8;have O8:=hid hot;have HK8:=hid R2.out.lt;have B8:=hid (btr B2.out hb8);clear r8 hot hb8 c0
  go_wp2
  have e2:=put4_grown w8 (w.heap.size+1) y tm (.slice a8 bn c8) (.slice a9 gn c9);have d1:=(R8.out.put4 y tm (.slice a8 bn c8) (.slice a9 gn c9)).cells;unfold put4 at d1 e2;have hk8:=HK8.out;refine bodyPost_ret (v:=.tuple #[.agg #[.int .i64 y,.int .i64 tm,.slice a8 bn c8,.slice a9 gn c9],.bool false]) (by simp [results,Tryz.results151,go_sem,d1]) rfl ⟨_,_,by rw [HE.out];rfl,?_,?_⟩
  ·rw [HE.out]
   exact (O8.out.grown e2 (by omega)).base (by omega)
  have hbs:=B8.out.size;exact B8.out.trans (below_of_grown e2 (by omega) hbs)
 have c0:=A2.out.cells
 go_wp2_with fail
 refine (specKnows_any lo hh lo' hh' y tm ba bn bc ga gn gc S G gid _ HL.out HN.out HSB.out (HR.out.later B2.out) HGL.out HGN.out (HIS.out.later B2.out)).mono ?_;rintro e w3 ⟨rfl,hb3⟩;rw [HQK.out];have A3:=hid (A2.out.later hb3);have R3:=hid (R2.out.later hb3);have B3:=hid (btr B2.out hb3);clear hb3 c0 A2 R2 B2
 cases q
 case true =>
  have HE:Hid (ok2=false):=by show _=_;rw [← H2.out,HQK.out];simp
  have c0:=A3.out.cells
  go_wp2_with fail
  refine (l07Copy_any lo hh lo' hh' y tm ba bn bc ga gn gc S G _ HL.out HN.out HSB.out (HR.out.later B3.out) HGL.out HGN.out (HIS.out.later B3.out) HG0.out).mono ?_;rintro e w8 ⟨bv,gv,rfl,hot,hb8⟩;obtain ⟨a8,c8,a9,c9,hv8,hv9⟩:=hot.shape;rw [HL.out] at hv8;rw [HGL.out] at hv9;subst hv8;subst hv9;have r8:=R3.out.later hb8;have q1:=r8.cells;have q2:=r8.loose;have R8:=hid r8;have O8:=hid hot;have HK8:=hid R3.out.lt;have B8:=hid (btr B3.out hb8);clear r8 hot hb8 c0
  go_wp2
  have e2:=put4_grown w8 (w.heap.size+1) y tm (.slice a8 bn c8) (.slice a9 gn c9);have d1:=(R8.out.put4 y tm (.slice a8 bn c8) (.slice a9 gn c9)).cells;unfold put4 at d1 e2;have hk8:=HK8.out;refine bodyPost_ret (v:=.tuple #[.agg #[.int .i64 y,.int .i64 tm,.slice a8 bn c8,.slice a9 gn c9],.bool false]) (by simp [results,Tryz.results151,go_sem,d1]) rfl ⟨_,_,by rw [HE.out];rfl,?_,?_⟩
  ·rw [HE.out]
   exact (O8.out.grown e2 (by omega)).base (by omega)
  have hbs:=B8.out.size;exact B8.out.trans (below_of_grown e2 (by omega) hbs)
 have HOKE:Hid ((!kno gid S G&&(chB S box (pmK y tm gid fl tx) (pmF y tm gid fl tx)).1)=(chB S box (pmK y tm gid fl tx) (pmF y tm gid fl tx)).1):=by show _=_;rw [HQK.out];rfl
 have htm:=sOk_tm HP.out
 rcases fidx_cases (isG box) S 0 with hneg | ⟨i,hi,hiz,_⟩
 ·have HE:Hid (ok2=false):=by show _=_;rw [← H2.out,chB_no hneg];simp
  rw [HZ.out] at hneg;have hneg2:zz<0:=hneg;have c0:=A3.out.cells
  go_wp2_with fail
  refine (l07Copy_any lo hh lo' hh' y tm ba bn bc ga gn gc S G _ HL.out HN.out HSB.out (HR.out.later B3.out) HGL.out HGN.out (HIS.out.later B3.out) HG0.out).mono ?_;rintro e w8 ⟨bv,gv,rfl,hot,hb8⟩;obtain ⟨a8,c8,a9,c9,hv8,hv9⟩:=hot.shape;rw [HL.out] at hv8;rw [HGL.out] at hv9;subst hv8;subst hv9;have r8:=R3.out.later hb8;have q1:=r8.cells;have q2:=r8.loose;have R8:=hid r8;have O8:=hid hot;have HK8:=hid R3.out.lt;have B8:=hid (btr B3.out hb8);clear r8 hot hb8 c0
  go_wp2
  have e2:=put4_grown w8 (w.heap.size+1) y tm (.slice a8 bn c8) (.slice a9 gn c9);have d1:=(R8.out.put4 y tm (.slice a8 bn c8) (.slice a9 gn c9)).cells;unfold put4 at d1 e2;have hk8:=HK8.out;refine bodyPost_ret (v:=.tuple #[.agg #[.int .i64 y,.int .i64 tm,.slice a8 bn c8,.slice a9 gn c9],.bool false]) (by simp [results,Tryz.results151,go_sem,d1]) rfl ⟨_,_,by rw [HE.out];rfl,?_,?_⟩
  ·rw [HE.out]
   exact (O8.out.grown e2 (by omega)).base (by omega)
  have hbs:=B8.out.size;exact B8.out.trans (below_of_grown e2 (by omega) hbs)
 rw [Nat.zero_add] at hiz;obtain ⟨x,hx⟩:∃ x,S[i]=x:=⟨_,rfl⟩;have HCB:=hid (chB_at (ok:=pmK y tm gid fl tx) (f:=pmF y tm gid fl tx) hiz hi hx);rw [HZ.out] at hiz
 have hznn:¬ zz<0:=by omega
 subst hiz
 have hib:i<bn:=by rw [← HL.out];exact hi
 obtain ⟨k0,o0,ma0,mc0,la0,lc0,rfl,hk0,d0,hms0,his0,_,hz0⟩:=HR.out.at hi;have hmem:=HSB.out S[i] (List.getElem_mem hi);rw [hx] at d0 hms0 his0 hmem;have HXX:=hid hmem;obtain ⟨okx,hokx⟩:∃ okx,pmK y tm gid fl tx x=okx:=⟨_,rfl⟩;have HOKX:=hid hokx
 have HFX:Hid (S1=S.set i (pmF y tm gid fl tx x)):=by show _=_;rw [← HS1.out,HCB.out]
 have HOKC:Hid ((chB S box (pmK y tm gid fl tx) (pmF y tm gid fl tx)).1=okx):=by show _=_;rw [HCB.out];exact hokx
 have HSM:Hid (Sx1 (pmF y tm gid fl tx x)):=by show Sx1 _;have hx:=hmem;exact pm_small hx htx
 have HEF:Hid (okx=false→ok2=false):=fun h=>by rw [← H2.out,HOKC.out,h];simp
 have HET:Hid (okx=true→sOk y (tm+1) (S.set i (pmF y tm gid fl tx x)) G=ok2):=fun h=>by rw [← H2.out,HOKC.out,h,HS1.out,HFX.out];simp [HQK.out]
 obtain ⟨g0,nm0,t0,b0,nx0,L0,G0⟩:=x;dsimp only at d0 hms0 his0 hmem;obtain ⟨m0,hm0⟩:∃ m0,L0.length=m0:=⟨_,rfl⟩;obtain ⟨n0,hn0⟩:∃ n0,G0.length=n0:=⟨_,rfl⟩;rw [hm0,hn0] at d0;have HQ0:=hid hmem;have HM0:=hid hm0;have HN0:=hid hn0
 have HQ1:Hid (m0≤1048576):=by show _≤_;rw [← hm0];exact hmem.2.1
 have HQ2:Hid (n0≤1048576):=by show _≤_;rw [← hn0];exact hmem.2.2.2
 have HMS:=hid hms0;have HI0:=hid his0;have HZ0:=hid hz0;have HB3:=B3;obtain ⟨W3,hW3⟩:∃ W3,W3=w3:=⟨_,rfl⟩;subst hW3;have HS:Hid (∀ W,Below W3.heap.size W3 W→(W.cell? ⟨w.heap.size,0,none⟩=some (.int .i64 y)∧W.cell? ⟨w.heap.size,1,none⟩=some (.int .i64 tm)∧W.cell? ⟨w.heap.size,2,none⟩=some (.slice (some ⟨k0,o0,none⟩) bn bc)∧W.cell? ⟨w.heap.size,3,none⟩=some (.slice ga gn gc))∧W.cell? ⟨k0,o0+i*7,none⟩=some (.int .i64 g0)∧W.cell? ⟨k0,o0+i*7+1,none⟩=some (.string nm0)∧W.cell? ⟨k0,o0+i*7+2,none⟩=some (.int .i64 t0)∧W.cell? ⟨k0,o0+i*7+3,none⟩=some (.int .i64 b0)∧W.cell? ⟨k0,o0+i*7+4,none⟩=some (.int .i64 nx0)∧W.cell? ⟨k0,o0+i*7+5,none⟩=some (.slice ma0 m0 mc0)∧W.cell? ⟨k0,o0+i*7+6,none⟩=some (.slice la0 n0 lc0)):=fun W hb=>⟨(A3.out.later hb).cells,(d0.later hk0 B3.out).same (hb.block k0 (Nat.lt_of_lt_of_le hk0 B3.out.size))⟩
 have hI:(0:Int)≤(i:Int)∧(i:Int)<(bn:Int):=by omega
 have hbn:=HN.out
 -- what is made of the box
 obtain ⟨ny,hny⟩:∃ ny,(pmF y tm gid fl tx (g0,nm0,t0,b0,nx0,L0,G0)).2.2.2.2.1=ny:=⟨_,rfl⟩;obtain ⟨K5,hK5⟩:∃ K5,(pmF y tm gid fl tx (g0,nm0,t0,b0,nx0,L0,G0)).2.2.2.2.2.1=K5:=⟨_,rfl⟩;obtain ⟨H5,hH5⟩:∃ H5,(pmF y tm gid fl tx (g0,nm0,t0,b0,nx0,L0,G0)).2.2.2.2.2.2=H5:=⟨_,rfl⟩
 have hF5:pmF y tm gid fl tx (g0,nm0,t0,b0,nx0,L0,G0)=(g0,nm0,t0,b0,ny,K5,H5):=by rw [← hny,← hK5,← hH5];rfl
 rw [hF5] at HSM HET HFX;obtain ⟨N5,hN5⟩:∃ N5,K5.length=N5:=⟨_,rfl⟩;obtain ⟨N6,hN6⟩:∃ N6,H5.length=N6:=⟨_,rfl⟩;have HKN:=hid hN5;have HHN:=hid hN6
 have HCALL:Hid (∀ W,Below W3.heap.size W3 W→Calls Tryz.prog 131 #[.agg #[.int .i64 g0,.string nm0,.int .i64 t0,.int .i64 b0,.int .i64 nx0,.slice ma0 m0 mc0,.slice la0 n0 lc0],.int .i64 gid,.int .i64 fl,.string tx,.agg #[.int .i64 (tm+1),.int .i64 y]] W fun e W'=>∃ mv gv,e=.returned (.tuple #[.agg #[.int .i64 g0,.string nm0,.int .i64 t0,.int .i64 b0,.int .i64 ny,mv,gv],.bool okx])∧OwB W' W.heap.size mv gv K5 H5∧Below W.heap.size W W'):=fun W hbW=>by
  have h:=specAdd_any lo hh lo hh g0 nm0 t0 b0 nx0 ma0 m0 mc0 la0 n0 lc0 L0 G0 gid fl tx (tm+1) y W HQ0.out.1 HM0.out HQ1.out HQ0.out.2.2.1 (HMS.out.later (btr HB3.out (by exact hbW))) HN0.out HQ2.out (HI0.out.later (btr HB3.out (by exact hbW))) HZ0.out htx;rw [← hny,← hK5,← hH5,← hokx];exact h
 clear hmem hm0 hn0 hms0 his0 hz0 d0 hk0 hokx hx hny hK5 hH5 hF5 hN5 hN6
 go_wp2_with fail
 go_cut [13,14] from 15 (fun s s2 wx=>∃ (kb:Nat) (a:Option Addr) (c:Nat) (a':Option Addr) (c':Nat),s=.pointer (some ⟨kb,0,none⟩)∧s2=.bool okx∧Ans W3 wx kb g0 nm0 t0 b0 ny (.slice a N5 c) (.slice a' N6 c') K5 H5)
 case first =>
  refine wp_region_noPanic ?_;refine wp_region_held_drew (S:=(fun W=>(W.cell? ⟨w.heap.size,0,none⟩=some (.int .i64 y)∧W.cell? ⟨w.heap.size,1,none⟩=some (.int .i64 tm)∧W.cell? ⟨w.heap.size,2,none⟩=some (.slice (some ⟨k0,o0,none⟩) bn bc)∧W.cell? ⟨w.heap.size,3,none⟩=some (.slice ga gn gc))∧W.cell? ⟨k0,o0+i*7,none⟩=some (.int .i64 g0)∧W.cell? ⟨k0,o0+i*7+1,none⟩=some (.string nm0)∧W.cell? ⟨k0,o0+i*7+2,none⟩=some (.int .i64 t0)∧W.cell? ⟨k0,o0+i*7+3,none⟩=some (.int .i64 b0)∧W.cell? ⟨k0,o0+i*7+4,none⟩=some (.int .i64 nx0)∧W.cell? ⟨k0,o0+i*7+5,none⟩=some (.slice ma0 m0 mc0)∧W.cell? ⟨k0,o0+i*7+6,none⟩=some (.slice la0 n0 lc0))) (by kernel_rfl) (HS.out _ (bdr (bre _))) (fun hHeld=>?_);refine tk 0 ?_;refine tk 1 ?_;refine tk 2 ?_;refine tk 3 ?_;refine tk 4 ?_;refine tk 5 ?_;refine tk 6 ?_;refine tk 7 ?_;refine tk 8 ?_;clear hHeld;refine wpAnyH_ready (rs:=[9,14]) (by kernel_rfl) (by simp) ?_;refine rc (fun K hK=>?_) ?_
  ·go_simp
   refine (specNextStamp_any y tm _ _ _ (by omega)).mono ?_;rintro e w4 ⟨rfl,hb4⟩
   go_wp2_with fail
   refine hK.out _ _ (HS.out _ bb) (fun hHeld=>?_);clear hK K;try simp only [Act.put,tq]
   clear hHeld;refine wpAnyH_ready (rs:=[10,14]) (by kernel_rfl) (by simp) ?_;refine rc (fun K hK=>?_) ?_
   ·go_simp
    refine (HCALL.out _ bb).mono ?_;rintro e w5 ⟨mv5,gv5,rfl,how5,hb5⟩;have hox5:=how5.owx;obtain ⟨av,cv,av2,cv2,hv5,hv6,_⟩:=hox5.reads;rw [HKN.out] at hv5;rw [HHN.out] at hv6;subst hv5;subst hv6;clear hox5
    go_wp2_with fail
    refine hK.out _ _ (HS.out _ bb) (fun hHeld=>?_);clear hK K;try simp only [Act.put,tq]
    refine tk 11 ?_;refine tk 12 ?_;refine tk 13 ?_;clear hHeld;refine ry 14 (fun K hK=>?_);go_simp;refine hK.out _ _ (HS.out _ bb) (fun hHeld=>?_);clear hK K;try simp only [Act.put,tq]
    clear hHeld;refine ry 15 (fun K hK=>?_);go_simp;have HA:=hid (ans_last (wn:=W3) (g:=g0) (nm:=nm0) (t:=t0) (b:=b0) (nx:=ny) how5 (by refine Below.size (B:=W3.heap.size) ?_;repeat (first | exact bre _ | refine bdr ?_ | refine btr ?_ (by assumption) | refine bpush ?_ _)) bb);refine hK.out _ _ (HS.out _ HA.out.bel) (fun hHeld=>?_);clear hK K;try simp only [Act.put,tq]
    refine tk 16 ?_;refine dn ?_;clear hHeld
    try go_wp2_with fail
    go_meet
    exact ⟨_,_,_,_,_,rfl,rfl,HA.out⟩
   refine rl (fun K hK=>?_);go_simp;refine hK.out _ _ (HS.out _ bb) (fun hHeld=>?_);clear hK K;try simp only [Act.put,tq]
   clear hHeld;refine ry 10 (fun K hK=>?_);go_simp;refine (HCALL.out _ bb).mono ?_;rintro e w5 ⟨mv5,gv5,rfl,how5,hb5⟩;have hox5:=how5.owx;obtain ⟨av,cv,av2,cv2,hv5,hv6,_⟩:=hox5.reads;rw [HKN.out] at hv5;rw [HHN.out] at hv6;subst hv5;subst hv6;clear hox5
   (first | (have R0:=bxl (Bx.newd _ 38 0 ⟨#[]⟩ 0 0 0 (.slice none 0 0) (.slice none 0 0)) hb5) | (have R0:=bxl (Bx.new _ 38 0 ⟨#[]⟩ 0 0 0 (.slice none 0 0) (.slice none 0 0)) hb5) | (have R0:=bxl (ty:=38) (g:=0) (nm:=⟨#[]⟩) (t:=0) (b:=0) (nx:=0) (ms:=.slice none 0 0) (gs:=.slice none 0 0) (by assumption) hb5))
   have L5:=R0.1;have R5:=R0.2;clear R0;have d5:=R5.cells;have f5:=R5.loose
   go_wp2_with fail
   refine hK.out _ _ (HS.out _ bb) (fun hHeld=>?_);clear hK K;try simp only [Act.put,tq]
   refine tk 11 ?_;refine tk 12 ?_;refine tk 13 ?_;clear hHeld;refine ry 15 (fun K hK=>?_);go_simp;have HA:=hid (ans_first (wn:=W3) (g:=g0) (nm:=nm0) (t:=t0) (b:=b0) (nx:=ny) R5 L5 how5 (by first | exact Nat.le_refl _ | exact HSZ4.out | (refine Below.size (B:=W3.heap.size) ?_;repeat (first | exact bre _ | refine bdr ?_ | refine btr ?_ (by assumption) | refine bpush ?_ _))) bb);refine hK.out _ _ (HS.out _ HA.out.bel) (fun hHeld=>?_);clear hK K;try simp only [Act.put,tq]
   refine tk 16 ?_;refine dn ?_;clear hHeld
   try go_wp2_with fail
   go_meet
   exact ⟨_,_,_,_,_,rfl,rfl,HA.out⟩
  refine rl (fun K hK=>?_);go_simp;refine hK.out _ _ (HS.out _ bb) (fun hHeld=>?_);clear hK K;try simp only [Act.put,tq]
  clear hHeld;refine ry 9 (fun K hK=>?_);go_simp;refine (specNextStamp_any y tm _ _ _ (by omega)).mono ?_;rintro e w4 ⟨rfl,hb4⟩
  (first | (have R0:=bxl (Bx.newd _ 38 0 ⟨#[]⟩ 0 0 0 (.slice none 0 0) (.slice none 0 0)) hb4) | (have R0:=bxl (Bx.new _ 38 0 ⟨#[]⟩ 0 0 0 (.slice none 0 0) (.slice none 0 0)) hb4) | (have R0:=bxl (ty:=38) (g:=0) (nm:=⟨#[]⟩) (t:=0) (b:=0) (nx:=0) (ms:=.slice none 0 0) (gs:=.slice none 0 0) (by assumption) hb4))
  have L4:=R0.1;have R4:=R0.2;clear R0
  go_wp2_with fail
  refine hK.out _ _ (HS.out _ bb) (fun hHeld=>?_);clear hK K;try simp only [Act.put,tq]
  clear hHeld;refine ry 10 (fun K hK=>?_);go_simp;refine (HCALL.out _ bb).mono ?_;rintro e w5 ⟨mv5,gv5,rfl,how5,hb5⟩;have hox5:=how5.owx;obtain ⟨av,cv,av2,cv2,hv5,hv6,_⟩:=hox5.reads;rw [HKN.out] at hv5;rw [HHN.out] at hv6;subst hv5;subst hv6;clear hox5
  (first | (have R0:=bxl (Bx.newd _ 38 0 ⟨#[]⟩ 0 0 0 (.slice none 0 0) (.slice none 0 0)) hb5) | (have R0:=bxl (Bx.new _ 38 0 ⟨#[]⟩ 0 0 0 (.slice none 0 0) (.slice none 0 0)) hb5) | (have R0:=bxl (ty:=38) (g:=0) (nm:=⟨#[]⟩) (t:=0) (b:=0) (nx:=0) (ms:=.slice none 0 0) (gs:=.slice none 0 0) R4 hb5))
  have L5:=R0.1;have R5:=R0.2;clear R0;have d5:=R5.cells;have f5:=R5.loose
  go_wp2_with fail
  refine hK.out _ _ (HS.out _ bb) (fun hHeld=>?_);clear hK K;try simp only [Act.put,tq]
  refine tk 11 ?_;refine tk 12 ?_;refine tk 13 ?_;clear hHeld;refine ry 15 (fun K hK=>?_);go_simp;have HA:=hid (ans_first (wn:=W3) (g:=g0) (nm:=nm0) (t:=t0) (b:=b0) (nx:=ny) R5 L5 how5 (by first | exact Nat.le_refl _ | exact HSZ4.out | (refine Below.size (B:=W3.heap.size) ?_;repeat (first | exact bre _ | refine bdr ?_ | refine btr ?_ (by assumption) | refine bpush ?_ _))) bb);refine hK.out _ _ (HS.out _ HA.out.bel) (fun hHeld=>?_);clear hK K;try simp only [Act.put,tq]
  refine tk 16 ?_;refine dn ?_;clear hHeld
  try go_wp2_with fail
  go_meet
  exact ⟨_,_,_,_,_,rfl,rfl,HA.out⟩
 case rest =>
  obtain ⟨kb,av,cv,av2,cv2,rfl,rfl,hans⟩:=hcut;obtain ⟨W6,hW6⟩:∃ W6,W6=wc:=⟨_,rfl⟩;subst hW6;obtain ⟨Bz,hz,hoh,hB1,hB2,hB3⟩:=hans.own;have HOX:Hid (OwX W6 Bz hz (.slice av N5 cv) (.slice av2 N6 cv2) K5 H5):=⟨hoh,hB2⟩
  have HBS0:Hid (w.heap.size+2≤Bz):=by show _≤_;have h1:=R3.out.lt;omega
  have HW6:Hid (w.heap.size+2≤W6.heap.size):=by show _≤_;have h1:=R3.out.lt;have h2:=hans.bel.size;omega
  have X6:=hid hans.box;have A6:=hid (A3.out.later hans.bel);have R6:=hid (R3.out.later hans.bel);have B6:=hid (btr B3.out hans.bel);clear hans hoh hB1 hB2 hB3 A3 R3 B3 HB3 HS HCALL
  cases okx
  ·have HE:Hid (ok2=false):=HEF.out rfl
   clear HEF HET;have c0:=A6.out.cells
   go_wp2_with fail
   refine (l07Copy_any lo hh lo' hh' y tm (some ⟨k0,o0,none⟩) bn bc ga gn gc S G _ HL.out HN.out HSB.out (HR.out.later B6.out) HGL.out HGN.out (HIS.out.later B6.out) HG0.out).mono ?_;rintro e w8 ⟨bv,gv,rfl,hot,hb8⟩;obtain ⟨a8,c8,a9,c9,hv8,hv9⟩:=hot.shape;rw [HL.out] at hv8;rw [HGL.out] at hv9;subst hv8;subst hv9;have r8:=R6.out.later hb8;have q1:=r8.cells;have q2:=r8.loose;have R8:=hid r8;have O8:=hid hot;have HK8:=hid R6.out.lt;have B8:=hid (btr B6.out hb8);clear r8 hot hb8 c0
   go_wp2
   have e2:=put4_grown w8 (w.heap.size+1) y tm (.slice a8 bn c8) (.slice a9 gn c9);have d1:=(R8.out.put4 y tm (.slice a8 bn c8) (.slice a9 gn c9)).cells;unfold put4 at d1 e2;have hk8:=HK8.out;refine bodyPost_ret (v:=.tuple #[.agg #[.int .i64 y,.int .i64 tm,.slice a8 bn c8,.slice a9 gn c9],.bool false]) (by simp [results,Tryz.results151,go_sem,d1]) rfl ⟨_,_,by rw [HE.out];rfl,?_,?_⟩
   ·rw [HE.out]
    exact (O8.out.grown e2 (by omega)).base (by omega)
   have hbs:=B8.out.size;exact B8.out.trans (below_of_grown e2 (by omega) hbs)
  have HET2:=hid (HET.out rfl);have c6:=A6.out.cells;have x6:=X6.out.cells
  go_wp2_with fail
  have HBS:Hid (w.heap.size+2≤Bz):=HBS0.out;refine (l07Stamped_any lo hh lo' hh' y tm (some ⟨k0,o0,none⟩) bn bc ga gn gc S G i g0 nm0 t0 b0 ny av N5 cv av2 N6 cv2 K5 H5 (w.heap.size+2) Bz hz _ HL.out HN.out HSB.out (HR.out.later B6.out) HGL.out HGN.out (HIS.out.later B6.out) HG0.out (by omega) hib HOX.out HBS.out HW6.out HSM.out ok2 HET2.out).mono ?_;rintro e w8 ⟨bv,gv,rfl,hot,hb8⟩;obtain ⟨S9,hS9⟩:∃ S9,pik ok2 (S.set i (g0,nm0,t0,b0,ny,K5,H5)) S=S9:=⟨_,rfl⟩;rw [hS9] at hot;obtain ⟨t9,ht9⟩:∃ t9,pik ok2 (tm+1) tm=t9:=⟨_,rfl⟩;rw [ht9];obtain ⟨a8,c8,a9,c9,hv8,hv9⟩:=hot.shape;obtain ⟨n8,hn8⟩:∃ n8,S9.length=n8:=⟨_,rfl⟩;obtain ⟨n9,hn9⟩:∃ n9,(pik ok2 G G).length=n9:=⟨_,rfl⟩;rw [hn8] at hv8;rw [hn9] at hv9;subst hv8;subst hv9;have r8:=R6.out.later hb8;have q1:=r8.cells;have q2:=r8.loose;have R8:=hid r8;have O8:=hid (hot.far (P:=fun j=>j=w.heap.size+1) (fun j hj=>.inr (by have h1:=HBS.out;omega)));have B8:=hid (btr B6.out hb8);have HT9:=hid ht9
  have HS9:Hid (pik ok2 S1 S=S9):=by show _=_;rw [HFX.out,hS9]
  have HK8:=hid R6.out.lt;clear r8 hot hb8 hn8 hn9 hS9 ht9 c6 x6
  go_wp2
  have e2:=put4_grown w8 (w.heap.size+1) y t9 (.slice a8 n8 c8) (.slice a9 n9 c9);have d1:=(R8.out.put4 y t9 (.slice a8 n8 c8) (.slice a9 n9 c9)).cells;unfold put4 at d1 e2;refine bodyPost_ret (v:=.tuple #[.agg #[.int .i64 y,.int .i64 t9,.slice a8 n8 c8,.slice a9 n9 c9],.bool ok2]) (by simp [results,Tryz.results151,go_sem,d1]) rfl ⟨_,_,by rw [HT9.out],?_,?_⟩
  ·rw [HS9.out]
   exact (O8.out.set e2 rfl).ot.base (by omega)
  have hbs:=B8.out.size;exact B8.out.trans (below_of_grown e2 (by omega) hbs)
theorem specMarkM_any (lo hh lo' hh':Nat) (y tm:Int) (ba:Option Addr) (bn bc:Nat) (ga:Option Addr) (gn gc:Nat) (S:List X7) (G:List Int) (box gid fl:Int) (w:World) (hl:S.length=bn) (hn:bn≤1048576) (hsb:Sb S) (hm:Bs lo hh w ba S) (hgl:G.length=gn) (hgn:gn≤1048576) (hs:Is lo' hh' w ga G) (hg0:ga=none→gc=0)
  (ok2:Bool) (h2:(sOk y tm S G&&((chB S box (mmK y tm gid fl) (mmF y tm gid fl)).1&&sOk y (tm+1) (chB S box (mmK y tm gid fl) (mmF y tm gid fl)).2 G))=ok2) :
  Calls Tryz.prog 152 #[.agg #[.int .i64 y,.int .i64 tm,.slice ba bn bc,.slice ga gn gc],.int .i64 box,.int .i64 gid,.int .i64 fl] w fun e w'=>∃ bv gv,e=.returned (.tuple #[.agg #[.int .i64 y,.int .i64 (pik ok2 (tm+1) tm),bv,gv],.bool ok2])∧OwT w' w.heap.size bv gv (pik ok2 (chB S box (mmK y tm gid fl) (mmF y tm gid fl)).2 S) (pik ok2 G G)∧Below w.heap.size w w':=by
 obtain ⟨W0,hW0⟩:∃ W0,(w.alloc (.cells #[.int .i64 y,.int .i64 tm,.slice ba bn bc,.slice ga gn gc] 27)).alloc (.cells #[.int .i64 0,.int .i64 0,.slice none 0 0,.slice none 0 0] 27)=W0:=⟨_,rfl⟩;obtain ⟨a0,r0,b0,s0⟩:=two_stores w _ _ _ _ _ _ _ _ _ _ W0 hW0;obtain ⟨p,hp⟩:∃ p,sOk y tm S G=p:=⟨_,rfl⟩;rw [hp] at h2;have HP:=hid hp;have H2:=hid h2;obtain ⟨zz,hzz⟩:∃ zz,fidx (isG box) S 0=zz:=⟨_,rfl⟩;have HZ:=hid hzz;obtain ⟨S1,hS1⟩:∃ S1,(chB S box (mmK y tm gid fl) (mmF y tm gid fl)).2=S1:=⟨_,rfl⟩;have HS1:=hid hS1;rw [hS1];have c0:=a0.cells;have A0:=hid a0;have R0:=hid r0;have B0:=hid b0;have S0:=hid s0;have HL:=hid hl;have HN:=hid hn;have HSB:=hid hsb;have HR:=hid hm;have HGL:=hid hgl;have HGN:=hid hgn;have HIS:=hid hs;have HG0:=hid hg0;clear a0 r0 b0 s0 hp h2 hzz hS1 hl hn hsb hm hgl hgn hs hg0
 go_enter Tryz.func152,Tryz.ntmps152
 go_wp2_with fail
 clear hW0;refine (specBoxAt_any lo hh y tm ba bn bc (.slice ga gn gc) S box _ HL.out HN.out (HR.out.later B0.out)).mono ?_;rintro e w1 ⟨rfl,hb1⟩;rw [HZ.out];have A1:=hid (A0.out.later hb1);have R1:=hid (R0.out.later hb1);have B1:=hid (btr B0.out hb1);have c0:=A1.out.cells;clear hb1 A0 R0 B0
 go_wp2_with fail
 refine (specStoreOk_any lo hh lo' hh' y tm ba bn bc ga gn gc S G _ HL.out HN.out HSB.out (HR.out.later B1.out) HGL.out HGN.out (HIS.out.later B1.out)).mono ?_;rintro e w2 ⟨rfl,hb2⟩;rw [HP.out];have A2:=hid (A1.out.later hb2);have R2:=hid (R1.out.later hb2);have B2:=hid (btr B1.out hb2);clear hb2 A1 R1 B1 c0
 cases p
 case false =>
  have HE:Hid (ok2=false):=by show _=_;rw [← H2.out];rfl
  have c0:=A2.out.cells
  go_wp2_with fail
  refine (l07Copy_any lo hh lo' hh' y tm ba bn bc ga gn gc S G _ HL.out HN.out HSB.out (HR.out.later B2.out) HGL.out HGN.out (HIS.out.later B2.out) HG0.out).mono ?_;rintro e w8 ⟨bv,gv,rfl,hot,hb8⟩;obtain ⟨a8,c8,a9,c9,hv8,hv9⟩:=hot.shape;rw [HL.out] at hv8;rw [HGL.out] at hv9;subst hv8;subst hv9;have r8:=R2.out.later hb8;have q1:=r8.cells;have q2:=r8.loose;have R8:=hid r8;have O8:=hid hot;have HK8:=hid R2.out.lt;have B8:=hid (btr B2.out hb8);clear r8 hot hb8 c0
  go_wp2
  have e2:=put4_grown w8 (w.heap.size+1) y tm (.slice a8 bn c8) (.slice a9 gn c9);have d1:=(R8.out.put4 y tm (.slice a8 bn c8) (.slice a9 gn c9)).cells;unfold put4 at d1 e2;have hk8:=HK8.out;refine bodyPost_ret (v:=.tuple #[.agg #[.int .i64 y,.int .i64 tm,.slice a8 bn c8,.slice a9 gn c9],.bool false]) (by simp [results,Tryz.results152,go_sem,d1]) rfl ⟨_,_,by rw [HE.out];rfl,?_,?_⟩
  ·rw [HE.out]
   exact (O8.out.grown e2 (by omega)).base (by omega)
  have hbs:=B8.out.size;exact B8.out.trans (below_of_grown e2 (by omega) hbs)
 have c0:=A2.out.cells;have A3:=A2;have R3:=R2;have B3:=B2;obtain ⟨w3,hw3⟩:∃ w3,w3=w2:=⟨_,rfl⟩;subst hw3
 have HOKE:Hid ((chB S box (mmK y tm gid fl) (mmF y tm gid fl)).1=((chB S box (mmK y tm gid fl) (mmF y tm gid fl)).1&&true)):=by show _=_;simp
 clear A2 R2 B2 c0;have htm:=sOk_tm HP.out
 rcases fidx_cases (isG box) S 0 with hneg | ⟨i,hi,hiz,_⟩
 ·have HE:Hid (ok2=false):=by show _=_;rw [← H2.out,chB_no hneg];simp
  rw [HZ.out] at hneg;have hneg2:zz<0:=hneg;have c0:=A3.out.cells
  go_wp2_with fail
  refine (l07Copy_any lo hh lo' hh' y tm ba bn bc ga gn gc S G _ HL.out HN.out HSB.out (HR.out.later B3.out) HGL.out HGN.out (HIS.out.later B3.out) HG0.out).mono ?_;rintro e w8 ⟨bv,gv,rfl,hot,hb8⟩;obtain ⟨a8,c8,a9,c9,hv8,hv9⟩:=hot.shape;rw [HL.out] at hv8;rw [HGL.out] at hv9;subst hv8;subst hv9;have r8:=R3.out.later hb8;have q1:=r8.cells;have q2:=r8.loose;have R8:=hid r8;have O8:=hid hot;have HK8:=hid R3.out.lt;have B8:=hid (btr B3.out hb8);clear r8 hot hb8 c0
  go_wp2
  have e2:=put4_grown w8 (w.heap.size+1) y tm (.slice a8 bn c8) (.slice a9 gn c9);have d1:=(R8.out.put4 y tm (.slice a8 bn c8) (.slice a9 gn c9)).cells;unfold put4 at d1 e2;have hk8:=HK8.out;refine bodyPost_ret (v:=.tuple #[.agg #[.int .i64 y,.int .i64 tm,.slice a8 bn c8,.slice a9 gn c9],.bool false]) (by simp [results,Tryz.results152,go_sem,d1]) rfl ⟨_,_,by rw [HE.out];rfl,?_,?_⟩
  ·rw [HE.out]
   exact (O8.out.grown e2 (by omega)).base (by omega)
  have hbs:=B8.out.size;exact B8.out.trans (below_of_grown e2 (by omega) hbs)
 rw [Nat.zero_add] at hiz;obtain ⟨x,hx⟩:∃ x,S[i]=x:=⟨_,rfl⟩;have HCB:=hid (chB_at (ok:=mmK y tm gid fl) (f:=mmF y tm gid fl) hiz hi hx);rw [HZ.out] at hiz
 have hznn:¬ zz<0:=by omega
 subst hiz
 have hib:i<bn:=by rw [← HL.out];exact hi
 obtain ⟨k0,o0,ma0,mc0,la0,lc0,rfl,hk0,d0,hms0,his0,_,hz0⟩:=HR.out.at hi;have hmem:=HSB.out S[i] (List.getElem_mem hi);rw [hx] at d0 hms0 his0 hmem;have HXX:=hid hmem;obtain ⟨okx,hokx⟩:∃ okx,mmK y tm gid fl x=okx:=⟨_,rfl⟩;have HOKX:=hid hokx
 have HFX:Hid (S1=S.set i (mmF y tm gid fl x)):=by show _=_;rw [← HS1.out,HCB.out]
 have HOKC:Hid ((chB S box (mmK y tm gid fl) (mmF y tm gid fl)).1=okx):=by show _=_;rw [HCB.out];exact hokx
 have HSM:Hid (Sx1 (mmF y tm gid fl x)):=by show Sx1 _;have hx:=hmem;exact mm_small hx
 have HEF:Hid (okx=false→ok2=false):=fun h=>by rw [← H2.out,HOKC.out,h];simp
 have HET:Hid (okx=true→sOk y (tm+1) (S.set i (mmF y tm gid fl x)) G=ok2):=fun h=>by rw [← H2.out,HOKC.out,h,HS1.out,HFX.out];simp
 obtain ⟨g0,nm0,t0,b0,nx0,L0,G0⟩:=x;dsimp only at d0 hms0 his0 hmem;obtain ⟨m0,hm0⟩:∃ m0,L0.length=m0:=⟨_,rfl⟩;obtain ⟨n0,hn0⟩:∃ n0,G0.length=n0:=⟨_,rfl⟩;rw [hm0,hn0] at d0;have HQ0:=hid hmem;have HM0:=hid hm0;have HN0:=hid hn0
 have HQ1:Hid (m0≤1048576):=by show _≤_;rw [← hm0];exact hmem.2.1
 have HQ2:Hid (n0≤1048576):=by show _≤_;rw [← hn0];exact hmem.2.2.2
 have HMS:=hid hms0;have HI0:=hid his0;have HZ0:=hid hz0;have HB3:=B3;obtain ⟨W3,hW3⟩:∃ W3,W3=w3:=⟨_,rfl⟩;subst hW3;have HS:Hid (∀ W,Below W3.heap.size W3 W→(W.cell? ⟨w.heap.size,0,none⟩=some (.int .i64 y)∧W.cell? ⟨w.heap.size,1,none⟩=some (.int .i64 tm)∧W.cell? ⟨w.heap.size,2,none⟩=some (.slice (some ⟨k0,o0,none⟩) bn bc)∧W.cell? ⟨w.heap.size,3,none⟩=some (.slice ga gn gc))∧W.cell? ⟨k0,o0+i*7,none⟩=some (.int .i64 g0)∧W.cell? ⟨k0,o0+i*7+1,none⟩=some (.string nm0)∧W.cell? ⟨k0,o0+i*7+2,none⟩=some (.int .i64 t0)∧W.cell? ⟨k0,o0+i*7+3,none⟩=some (.int .i64 b0)∧W.cell? ⟨k0,o0+i*7+4,none⟩=some (.int .i64 nx0)∧W.cell? ⟨k0,o0+i*7+5,none⟩=some (.slice ma0 m0 mc0)∧W.cell? ⟨k0,o0+i*7+6,none⟩=some (.slice la0 n0 lc0)):=fun W hb=>⟨(A3.out.later hb).cells,(d0.later hk0 B3.out).same (hb.block k0 (Nat.lt_of_lt_of_le hk0 B3.out.size))⟩
 have hI:(0:Int)≤(i:Int)∧(i:Int)<(bn:Int):=by omega
 have hbn:=HN.out
 -- what is made of the box
 obtain ⟨ny,hny⟩:∃ ny,(mmF y tm gid fl (g0,nm0,t0,b0,nx0,L0,G0)).2.2.2.2.1=ny:=⟨_,rfl⟩;obtain ⟨K5,hK5⟩:∃ K5,(mmF y tm gid fl (g0,nm0,t0,b0,nx0,L0,G0)).2.2.2.2.2.1=K5:=⟨_,rfl⟩;obtain ⟨H5,hH5⟩:∃ H5,(mmF y tm gid fl (g0,nm0,t0,b0,nx0,L0,G0)).2.2.2.2.2.2=H5:=⟨_,rfl⟩
 have hF5:mmF y tm gid fl (g0,nm0,t0,b0,nx0,L0,G0)=(g0,nm0,t0,b0,ny,K5,H5):=by rw [← hny,← hK5,← hH5];rfl
 rw [hF5] at HSM HET HFX;obtain ⟨N5,hN5⟩:∃ N5,K5.length=N5:=⟨_,rfl⟩;obtain ⟨N6,hN6⟩:∃ N6,H5.length=N6:=⟨_,rfl⟩;have HKN:=hid hN5;have HHN:=hid hN6
 have HCALL:Hid (∀ W,Below W3.heap.size W3 W→Calls Tryz.prog 133 #[.agg #[.int .i64 g0,.string nm0,.int .i64 t0,.int .i64 b0,.int .i64 nx0,.slice ma0 m0 mc0,.slice la0 n0 lc0],.int .i64 gid,.int .i64 fl,.agg #[.int .i64 (tm+1),.int .i64 y]] W fun e W'=>∃ mv gv,e=.returned (.tuple #[.agg #[.int .i64 g0,.string nm0,.int .i64 t0,.int .i64 b0,.int .i64 ny,mv,gv],.bool okx])∧OwB W' W.heap.size mv gv K5 H5∧Below W.heap.size W W'):=fun W hbW=>by
  have h:=specFlag8_any lo hh lo hh g0 nm0 t0 b0 nx0 ma0 m0 mc0 la0 n0 lc0 L0 G0 gid fl (tm+1) y W HQ0.out.1 HM0.out HQ1.out HQ0.out.2.2.1 (HMS.out.later (btr HB3.out (by exact hbW))) HN0.out HQ2.out (HI0.out.later (btr HB3.out (by exact hbW))) HZ0.out;rw [← hny,← hK5,← hH5,← hokx];exact h
 clear hmem hm0 hn0 hms0 his0 hz0 d0 hk0 hokx hx hny hK5 hH5 hF5 hN5 hN6
 go_wp2_with fail
 go_cut [11,12] from 13 (fun s s2 wx=>∃ (kb:Nat) (a:Option Addr) (c:Nat) (a':Option Addr) (c':Nat),s=.pointer (some ⟨kb,0,none⟩)∧s2=.bool okx∧Ans W3 wx kb g0 nm0 t0 b0 ny (.slice a N5 c) (.slice a' N6 c') K5 H5)
 case first =>
  refine wp_region_noPanic ?_;refine wp_region_held_drew (S:=(fun W=>(W.cell? ⟨w.heap.size,0,none⟩=some (.int .i64 y)∧W.cell? ⟨w.heap.size,1,none⟩=some (.int .i64 tm)∧W.cell? ⟨w.heap.size,2,none⟩=some (.slice (some ⟨k0,o0,none⟩) bn bc)∧W.cell? ⟨w.heap.size,3,none⟩=some (.slice ga gn gc))∧W.cell? ⟨k0,o0+i*7,none⟩=some (.int .i64 g0)∧W.cell? ⟨k0,o0+i*7+1,none⟩=some (.string nm0)∧W.cell? ⟨k0,o0+i*7+2,none⟩=some (.int .i64 t0)∧W.cell? ⟨k0,o0+i*7+3,none⟩=some (.int .i64 b0)∧W.cell? ⟨k0,o0+i*7+4,none⟩=some (.int .i64 nx0)∧W.cell? ⟨k0,o0+i*7+5,none⟩=some (.slice ma0 m0 mc0)∧W.cell? ⟨k0,o0+i*7+6,none⟩=some (.slice la0 n0 lc0))) (by kernel_rfl) (HS.out _ (bdr (bre _))) (fun hHeld=>?_);refine tk 0 ?_;refine tk 1 ?_;refine tk 2 ?_;refine tk 3 ?_;refine tk 4 ?_;refine tk 5 ?_;refine tk 6 ?_;refine tk 7 ?_;clear hHeld;refine wpAnyH_ready (rs:=[8,13]) (by kernel_rfl) (by simp) ?_;refine rc (fun K hK=>?_) ?_
  ·go_simp
   refine (specNextStamp_any y tm _ _ _ (by omega)).mono ?_;rintro e w4 ⟨rfl,hb4⟩
   go_wp2_with fail
   refine hK.out _ _ (HS.out _ bb) (fun hHeld=>?_);clear hK K;try simp only [Act.put,tq]
   clear hHeld;refine wpAnyH_ready (rs:=[9,13]) (by kernel_rfl) (by simp) ?_;refine rc (fun K hK=>?_) ?_
   ·go_simp
    refine (HCALL.out _ bb).mono ?_;rintro e w5 ⟨mv5,gv5,rfl,how5,hb5⟩;have hox5:=how5.owx;obtain ⟨av,cv,av2,cv2,hv5,hv6,_⟩:=hox5.reads;rw [HKN.out] at hv5;rw [HHN.out] at hv6;subst hv5;subst hv6;clear hox5
    go_wp2_with fail
    refine hK.out _ _ (HS.out _ bb) (fun hHeld=>?_);clear hK K;try simp only [Act.put,tq]
    refine tk 10 ?_;refine tk 11 ?_;refine tk 12 ?_;clear hHeld;refine ry 13 (fun K hK=>?_);go_simp;refine hK.out _ _ (HS.out _ bb) (fun hHeld=>?_);clear hK K;try simp only [Act.put,tq]
    clear hHeld;refine ry 14 (fun K hK=>?_);go_simp;have HA:=hid (ans_last (wn:=W3) (g:=g0) (nm:=nm0) (t:=t0) (b:=b0) (nx:=ny) how5 (by refine Below.size (B:=W3.heap.size) ?_;repeat (first | exact bre _ | refine bdr ?_ | refine btr ?_ (by assumption) | refine bpush ?_ _)) bb);refine hK.out _ _ (HS.out _ HA.out.bel) (fun hHeld=>?_);clear hK K;try simp only [Act.put,tq]
    refine tk 15 ?_;refine dn ?_;clear hHeld
    try go_wp2_with fail
    go_meet
    exact ⟨_,_,_,_,_,rfl,rfl,HA.out⟩
   refine rl (fun K hK=>?_);go_simp;refine hK.out _ _ (HS.out _ bb) (fun hHeld=>?_);clear hK K;try simp only [Act.put,tq]
   clear hHeld;refine ry 9 (fun K hK=>?_);go_simp;refine (HCALL.out _ bb).mono ?_;rintro e w5 ⟨mv5,gv5,rfl,how5,hb5⟩;have hox5:=how5.owx;obtain ⟨av,cv,av2,cv2,hv5,hv6,_⟩:=hox5.reads;rw [HKN.out] at hv5;rw [HHN.out] at hv6;subst hv5;subst hv6;clear hox5
   (first | (have R0:=bxl (Bx.newd _ 38 0 ⟨#[]⟩ 0 0 0 (.slice none 0 0) (.slice none 0 0)) hb5) | (have R0:=bxl (Bx.new _ 38 0 ⟨#[]⟩ 0 0 0 (.slice none 0 0) (.slice none 0 0)) hb5) | (have R0:=bxl (ty:=38) (g:=0) (nm:=⟨#[]⟩) (t:=0) (b:=0) (nx:=0) (ms:=.slice none 0 0) (gs:=.slice none 0 0) (by assumption) hb5))
   have L5:=R0.1;have R5:=R0.2;clear R0;have d5:=R5.cells;have f5:=R5.loose
   go_wp2_with fail
   refine hK.out _ _ (HS.out _ bb) (fun hHeld=>?_);clear hK K;try simp only [Act.put,tq]
   refine tk 10 ?_;refine tk 11 ?_;refine tk 12 ?_;clear hHeld;refine ry 14 (fun K hK=>?_);go_simp;have HA:=hid (ans_first (wn:=W3) (g:=g0) (nm:=nm0) (t:=t0) (b:=b0) (nx:=ny) R5 L5 how5 (by first | exact Nat.le_refl _ | exact HSZ4.out | (refine Below.size (B:=W3.heap.size) ?_;repeat (first | exact bre _ | refine bdr ?_ | refine btr ?_ (by assumption) | refine bpush ?_ _))) bb);refine hK.out _ _ (HS.out _ HA.out.bel) (fun hHeld=>?_);clear hK K;try simp only [Act.put,tq]
   refine tk 15 ?_;refine dn ?_;clear hHeld
   try go_wp2_with fail
   go_meet
   exact ⟨_,_,_,_,_,rfl,rfl,HA.out⟩
  refine rl (fun K hK=>?_);go_simp;refine hK.out _ _ (HS.out _ bb) (fun hHeld=>?_);clear hK K;try simp only [Act.put,tq]
  clear hHeld;refine ry 8 (fun K hK=>?_);go_simp;refine (specNextStamp_any y tm _ _ _ (by omega)).mono ?_;rintro e w4 ⟨rfl,hb4⟩
  (first | (have R0:=bxl (Bx.newd _ 38 0 ⟨#[]⟩ 0 0 0 (.slice none 0 0) (.slice none 0 0)) hb4) | (have R0:=bxl (Bx.new _ 38 0 ⟨#[]⟩ 0 0 0 (.slice none 0 0) (.slice none 0 0)) hb4) | (have R0:=bxl (ty:=38) (g:=0) (nm:=⟨#[]⟩) (t:=0) (b:=0) (nx:=0) (ms:=.slice none 0 0) (gs:=.slice none 0 0) (by assumption) hb4))
  have L4:=R0.1;have R4:=R0.2;clear R0
  go_wp2_with fail
  refine hK.out _ _ (HS.out _ bb) (fun hHeld=>?_);clear hK K;try simp only [Act.put,tq]
  clear hHeld;refine ry 9 (fun K hK=>?_);go_simp;refine (HCALL.out _ bb).mono ?_;rintro e w5 ⟨mv5,gv5,rfl,how5,hb5⟩;have hox5:=how5.owx;obtain ⟨av,cv,av2,cv2,hv5,hv6,_⟩:=hox5.reads;rw [HKN.out] at hv5;rw [HHN.out] at hv6;subst hv5;subst hv6;clear hox5
  (first | (have R0:=bxl (Bx.newd _ 38 0 ⟨#[]⟩ 0 0 0 (.slice none 0 0) (.slice none 0 0)) hb5) | (have R0:=bxl (Bx.new _ 38 0 ⟨#[]⟩ 0 0 0 (.slice none 0 0) (.slice none 0 0)) hb5) | (have R0:=bxl (ty:=38) (g:=0) (nm:=⟨#[]⟩) (t:=0) (b:=0) (nx:=0) (ms:=.slice none 0 0) (gs:=.slice none 0 0) R4 hb5))
  have L5:=R0.1;have R5:=R0.2;clear R0;have d5:=R5.cells;have f5:=R5.loose
  go_wp2_with fail
  refine hK.out _ _ (HS.out _ bb) (fun hHeld=>?_);clear hK K;try simp only [Act.put,tq]
  refine tk 10 ?_;refine tk 11 ?_;refine tk 12 ?_;clear hHeld;refine ry 14 (fun K hK=>?_);go_simp;have HA:=hid (ans_first (wn:=W3) (g:=g0) (nm:=nm0) (t:=t0) (b:=b0) (nx:=ny) R5 L5 how5 (by first | exact Nat.le_refl _ | exact HSZ4.out | (refine Below.size (B:=W3.heap.size) ?_;repeat (first | exact bre _ | refine bdr ?_ | refine btr ?_ (by assumption) | refine bpush ?_ _))) bb);refine hK.out _ _ (HS.out _ HA.out.bel) (fun hHeld=>?_);clear hK K;try simp only [Act.put,tq]
  refine tk 15 ?_;refine dn ?_;clear hHeld
  try go_wp2_with fail
  go_meet
  exact ⟨_,_,_,_,_,rfl,rfl,HA.out⟩
 case rest =>
  obtain ⟨kb,av,cv,av2,cv2,rfl,rfl,hans⟩:=hcut;obtain ⟨W6,hW6⟩:∃ W6,W6=wc:=⟨_,rfl⟩;subst hW6;obtain ⟨Bz,hz,hoh,hB1,hB2,hB3⟩:=hans.own;have HOX:Hid (OwX W6 Bz hz (.slice av N5 cv) (.slice av2 N6 cv2) K5 H5):=⟨hoh,hB2⟩
  have HBS0:Hid (w.heap.size+2≤Bz):=by show _≤_;have h1:=R3.out.lt;omega
  have HW6:Hid (w.heap.size+2≤W6.heap.size):=by show _≤_;have h1:=R3.out.lt;have h2:=hans.bel.size;omega
  have X6:=hid hans.box;have A6:=hid (A3.out.later hans.bel);have R6:=hid (R3.out.later hans.bel);have B6:=hid (btr B3.out hans.bel);clear hans hoh hB1 hB2 hB3 A3 R3 B3 HB3 HS HCALL
  cases okx
  ·have HE:Hid (ok2=false):=HEF.out rfl
   clear HEF HET;have c0:=A6.out.cells
   go_wp2_with fail
   refine (l07Copy_any lo hh lo' hh' y tm (some ⟨k0,o0,none⟩) bn bc ga gn gc S G _ HL.out HN.out HSB.out (HR.out.later B6.out) HGL.out HGN.out (HIS.out.later B6.out) HG0.out).mono ?_;rintro e w8 ⟨bv,gv,rfl,hot,hb8⟩;obtain ⟨a8,c8,a9,c9,hv8,hv9⟩:=hot.shape;rw [HL.out] at hv8;rw [HGL.out] at hv9;subst hv8;subst hv9;have r8:=R6.out.later hb8;have q1:=r8.cells;have q2:=r8.loose;have R8:=hid r8;have O8:=hid hot;have HK8:=hid R6.out.lt;have B8:=hid (btr B6.out hb8);clear r8 hot hb8 c0
   go_wp2
   have e2:=put4_grown w8 (w.heap.size+1) y tm (.slice a8 bn c8) (.slice a9 gn c9);have d1:=(R8.out.put4 y tm (.slice a8 bn c8) (.slice a9 gn c9)).cells;unfold put4 at d1 e2;have hk8:=HK8.out;refine bodyPost_ret (v:=.tuple #[.agg #[.int .i64 y,.int .i64 tm,.slice a8 bn c8,.slice a9 gn c9],.bool false]) (by simp [results,Tryz.results152,go_sem,d1]) rfl ⟨_,_,by rw [HE.out];rfl,?_,?_⟩
   ·rw [HE.out]
    exact (O8.out.grown e2 (by omega)).base (by omega)
   have hbs:=B8.out.size;exact B8.out.trans (below_of_grown e2 (by omega) hbs)
  have HET2:=hid (HET.out rfl);have c6:=A6.out.cells;have x6:=X6.out.cells
  go_wp2_with fail
  have HBS:Hid (w.heap.size+2≤Bz):=HBS0.out;refine (l07Stamped_any lo hh lo' hh' y tm (some ⟨k0,o0,none⟩) bn bc ga gn gc S G i g0 nm0 t0 b0 ny av N5 cv av2 N6 cv2 K5 H5 (w.heap.size+2) Bz hz _ HL.out HN.out HSB.out (HR.out.later B6.out) HGL.out HGN.out (HIS.out.later B6.out) HG0.out (by omega) hib HOX.out HBS.out HW6.out HSM.out ok2 HET2.out).mono ?_;rintro e w8 ⟨bv,gv,rfl,hot,hb8⟩;obtain ⟨S9,hS9⟩:∃ S9,pik ok2 (S.set i (g0,nm0,t0,b0,ny,K5,H5)) S=S9:=⟨_,rfl⟩;rw [hS9] at hot;obtain ⟨t9,ht9⟩:∃ t9,pik ok2 (tm+1) tm=t9:=⟨_,rfl⟩;rw [ht9];obtain ⟨a8,c8,a9,c9,hv8,hv9⟩:=hot.shape;obtain ⟨n8,hn8⟩:∃ n8,S9.length=n8:=⟨_,rfl⟩;obtain ⟨n9,hn9⟩:∃ n9,(pik ok2 G G).length=n9:=⟨_,rfl⟩;rw [hn8] at hv8;rw [hn9] at hv9;subst hv8;subst hv9;have r8:=R6.out.later hb8;have q1:=r8.cells;have q2:=r8.loose;have R8:=hid r8;have O8:=hid (hot.far (P:=fun j=>j=w.heap.size+1) (fun j hj=>.inr (by have h1:=HBS.out;omega)));have B8:=hid (btr B6.out hb8);have HT9:=hid ht9
  have HS9:Hid (pik ok2 S1 S=S9):=by show _=_;rw [HFX.out,hS9]
  have HK8:=hid R6.out.lt;clear r8 hot hb8 hn8 hn9 hS9 ht9 c6 x6
  go_wp2
  have e2:=put4_grown w8 (w.heap.size+1) y t9 (.slice a8 n8 c8) (.slice a9 n9 c9);have d1:=(R8.out.put4 y t9 (.slice a8 n8 c8) (.slice a9 n9 c9)).cells;unfold put4 at d1 e2;refine bodyPost_ret (v:=.tuple #[.agg #[.int .i64 y,.int .i64 t9,.slice a8 n8 c8,.slice a9 n9 c9],.bool ok2]) (by simp [results,Tryz.results152,go_sem,d1]) rfl ⟨_,_,by rw [HT9.out],?_,?_⟩
  ·rw [HS9.out]
   exact (O8.out.set e2 rfl).ot.base (by omega)
  have hbs:=B8.out.size;exact B8.out.trans (below_of_grown e2 (by omega) hbs)
end Go.Proofs.YtdkedgedkgabnaaGreatDoor
