/- Tis. -/
import Derived.Test.YtdkedgedkgabnaaGreatDoorX19
namespace Go.Proofs.YtdkedgedkgabnaaGreatDoor
open Go.RowKit Go.ChangeMaps
set_option maxHeartbeats 16000000
set_option maxRecDepth 100000
theorem l07Stamped_any (lo hh lo' hh':Nat) (y tm:Int) (ba:Option Addr) (bn bc:Nat) (ga:Option Addr) (gn gc:Nat) (S:List X7) (G:List Int) (i:Nat) (g1:Int) (nm1:ByteArray) (t1 b1 nx1:Int) (ma:Option Addr) (m1 mc:Nat) (la:Option Addr) (n1 lc:Nat) (L1:List M4) (G1:List Int) (B lo1 hi1:Nat) (w:World) (hl:S.length=bn) (hn:bn≤1048576) (hsb:Sb S) (hm:Bs lo hh w ba S) (hgl:G.length=gn) (hgn:gn≤1048576) (hs:Is lo' hh' w ga G) (hg0:ga=none→gc=0) (ht:-9223372036854775808≤tm∧tm≤9223372036854775806) (hi:i<bn) (hox:OwX w lo1 hi1 (.slice ma m1 mc) (.slice la n1 lc) L1 G1) (hB:B≤lo1) (hBw:B≤w.heap.size) (hsx:Sx1 (g1,nm1,t1,b1,nx1,L1,G1))
  (ok2:Bool) (h2:sOk y (tm+1) (S.set i (g1,nm1,t1,b1,nx1,L1,G1)) G=ok2) :
  Calls Tryz.prog 174 #[.agg #[.int .i64 y,.int .i64 tm,.slice ba bn bc,.slice ga gn gc],.int .i64 (i:Int),.agg #[.int .i64 g1,.string nm1,.int .i64 t1,.int .i64 b1,.int .i64 nx1,.slice ma m1 mc,.slice la n1 lc]] w fun e w'=>∃ bv gv,e=.returned (.tuple #[.agg #[.int .i64 y,.int .i64 (pik ok2 (tm+1) tm),bv,gv],.bool ok2])∧OwT w' B bv gv (pik ok2 (S.set i (g1,nm1,t1,b1,nx1,L1,G1)) S) (pik ok2 G G)∧Below w.heap.size w w':=by
 obtain ⟨S1,hS1⟩:∃ S1,S.set i (g1,nm1,t1,b1,nx1,L1,G1)=S1:=⟨_,rfl⟩;rw [hS1] at h2 ⊢;have HS1:=hid hS1;clear hS1;obtain ⟨W0,hW0⟩:∃ W0,((w.alloc (.cells #[.int .i64 y,.int .i64 tm,.slice ba bn bc,.slice ga gn gc] 27)).alloc (.cells #[.int .i64 g1,.string nm1,.int .i64 t1,.int .i64 b1,.int .i64 nx1,.slice ma m1 mc,.slice la n1 lc] 38)).alloc (.cells #[.int .i64 0,.int .i64 0,.slice none 0 0,.slice none 0 0] 27)=W0:=⟨_,rfl⟩;obtain ⟨a0,x0,r0,b0,s0⟩:=store_box_store w _ _ _ _ _ _ _ _ _ _ _ _ _ _ _ _ _ _ W0 hW0;have c0:=a0.cells;have A0:=hid a0;have X0:=hid x0;have R0:=hid r0;have B0:=hid b0;have S0:=hid s0;have HOX:=hid (hox.later b0);have HTOP:=hid hox.top;have H2:=hid h2;have HSX:=hid hsx;have HL:=hid hl;have HN:=hid hn;have HSB:=hid hsb;have HR:=hid hm;have HGL:=hid hgl;have HGN:=hid hgn;have HIS:=hid hs;have HG0:=hid hg0;clear a0 x0 r0 b0 s0 h2 hox hsx hl hn hsb hm hgl hgn hs hg0
 go_enter Tryz.func174,Tryz.ntmps174
 go_wp2_with fail
 clear hW0;refine (l07Copy_any lo hh lo' hh' y tm ba bn bc ga gn gc S G _ HL.out HN.out HSB.out (HR.out.later B0.out) HGL.out HGN.out (HIS.out.later B0.out) HG0.out).mono ?_;rintro e w1 ⟨bv1,gv1,rfl,hot,hb1⟩;obtain ⟨a8,c8,a9,c9,hv8,hv9⟩:=hot.shape;rw [HL.out] at hv8;rw [HGL.out] at hv9;subst hv8;subst hv9
 have hil:i<S.length:=by rw [HL.out];exact hi
 obtain ⟨g,rfl⟩:=hot.addr hil;obtain ⟨W2,hW2⟩:∃ W2,w1.alloc (.cells #[.int .i64 y,.int .i64 tm,.slice (some ⟨g,0,none⟩) bn c8,.slice a9 gn c9] 27)=W2:=⟨_,rfl⟩
 have b2:Below w1.heap.size w1 W2:=by subst hW2;exact bpush (bre _) _
 have o2:Sx W2 w1.heap.size 27 y tm (.slice (some ⟨g,0,none⟩) bn c8) (.slice a9 gn c9):=by subst hW2;exact Sx.new _ _ _ _ _ _
 have HN2:=hid ((hot.far (P:=fun j=>j=w1.heap.size∨j=w.heap.size+1+1) (fun j hj=>by have:=S0.out;omega)).later b2);have A2:=hid (A0.out.later (btr hb1 b2));have X2:=hid (X0.out.later (btr hb1 b2));have R2:=hid (R0.out.later (btr hb1 b2));have B2:=hid (btr B0.out (btr hb1 b2));have HOX2:=hid (HOX.out.later (btr hb1 b2));have O2:=hid o2;have HW1:Hid (W0.heap.size≤w1.heap.size):=hb1.size;obtain ⟨ko,hko⟩:∃ ko,w1.heap.size=ko:=⟨_,rfl⟩;rw [hko] at O2 HN2 HW1;have c2:=O2.out.cells;have d2:=X2.out.cells
 have hI:(0:Int)≤(i:Int)∧(i:Int)<(bn:Int):=by omega
 have hbn:=HN.out;obtain ⟨ma3,mc3,ga3,gc3,e0,e31,e32,e33,e34,f3⟩:=HN2.out.ot.cells i hil;obtain ⟨qq,hqq⟩:∃ qq,S[i]=qq:=⟨_,rfl⟩;rw [hqq] at e0;obtain ⟨z1,z2,z3,z4,z5,z6,z7⟩:=qq;dsimp only at e0;obtain ⟨m5,hm5⟩:∃ m5,z6.length=m5:=⟨_,rfl⟩;obtain ⟨n5,hn5⟩:∃ n5,z7.length=n5:=⟨_,rfl⟩;rw [hm5,hn5] at e0;unfold C7 at e0;clear e31 e32 e33 e34 hqq hm5 hn5
 -- behind the store of the box
 obtain ⟨W3,hW3⟩:∃ W3,((((((W2.setCell ⟨g,i*7,none⟩ (.int .i64 g1)).setCell ⟨g,i*7+1,none⟩ (.string nm1)).setCell ⟨g,i*7+2,none⟩ (.int .i64 t1)).setCell ⟨g,i*7+3,none⟩ (.int .i64 b1)).setCell ⟨g,i*7+4,none⟩ (.int .i64 nx1)).setCell ⟨g,i*7+5,none⟩ (.slice ma m1 mc)).setCell ⟨g,i*7+6,none⟩ (.slice la n1 lc)=W3:=⟨_,rfl⟩
 have g3:W2.grownBy W3 (some g):=by subst hW3;exact put7_grown W2 g (i*7) ⟨g1,nm1,t1,b1,nx1,.slice ma m1 mc,.slice la n1 lc,L1,G1,lo1,hi1⟩
 have HN3:Hid (OwN W3 B (fun j=>j=ko∨j=w.heap.size+1+1) (.slice (some ⟨g,0,none⟩) bn c8) (.slice a9 gn c9) (S.set i (g1,nm1,t1,b1,nx1,L1,G1)) G):=by
  subst hW3;exact HN2.out.put i hil ⟨g1,nm1,t1,b1,nx1,.slice ma m1 mc,.slice la n1 lc,L1,G1,lo1,hi1⟩ HOX2.out hB (by have:=S0.out;omega) (by have h1:=HTOP.out;have h2:=S0.out;show hi1≤W0.heap.size;omega) (fun j j1 j2 hp=>by have h1:=HTOP.out;have h2:=S0.out;have h3:=HW1.out;have h4:j<hi1:=j2;omega)
 have hgl3:=HN2.out.lt;have hs0:=S0.out;have hw1:=HW1.out;have A3:=hid (A2.out.off g3 (by omega));have R3:=hid (R2.out.off g3 (by omega));have O3:=hid (O2.out.off g3 (by omega));have B3:Hid (Below w.heap.size w W3):=B2.out.trans (below_of_grown g3 (by omega) B2.out.size);have c3:=A3.out.cells;have o3:=O3.out.cells;have p3:=O3.out.loose;obtain ⟨W4,hW4⟩:∃ W4,W3.setCell ⟨ko,1,none⟩ (.int .i64 (tm+1))=W4:=⟨_,rfl⟩
 have g4:W3.grownBy W4 (some ko):=by subst hW4;exact wst (wre _ _) _ _
 have O4:Hid (Sx W4 ko 27 y (tm+1) (.slice (some ⟨g,0,none⟩) bn c8) (.slice a9 gn c9)):=by subst hW4;exact O3.out.s1 _
 have A4:=hid (A3.out.off g4 (by omega));have R4:=hid (R3.out.off g4 (by omega));have HN4:=hid (HN3.out.set g4 (.inl rfl));have B4:Hid (Below w.heap.size w W4):=B3.out.trans (below_of_grown g4 (by omega) B3.out.size);have o4:=O4.out.cells;have HSB1:Hid (Sb (S.set i (g1,nm1,t1,b1,nx1,L1,G1))):=sb_set HSB.out i HSX.out
 have HL1:Hid ((S.set i (g1,nm1,t1,b1,nx1,L1,G1)).length=bn):=by show _=_;rw [List.length_set];exact HL.out
 have HRD4:=hid HN4.out.ot.reads;rw [HS1.out] at HN4 HSB1 HL1 HRD4;clear hgl3 hs0 hw1 g3 g4 hot hb1 b2 o2 HN2 HN3 HOX HOX2
 go_wp2_with fail
 (try rw [hW3])
 (try rw [hW4])
 clear hW2 hko hW3 hW4 e0 f3 c2 d2 c3 o3 p3 c0 A2 X2 R2 A3 R3 O3 X0 R0 A0;refine (specStoreOk_any _ _ _ _ y (tm+1) (some ⟨g,0,none⟩) bn c8 a9 gn c9 S1 G _ HL1.out HN.out HSB1.out HRD4.out.2.2.1 HGL.out HGN.out HRD4.out.2.2.2).mono ?_;rintro e w5 ⟨rfl,hb5⟩;rw [H2.out];have A5:=hid (A4.out.later hb5);have R5:=hid (R4.out.later hb5);have O5:=hid (O4.out.later hb5);have B5:=hid (btr B4.out hb5);have HT5:=hid (HN4.out.later hb5).ot;have HN5:=hid (HN4.out.later hb5);clear hb5 o4 A4 R4 O4 B4 HN4 HRD4
 cases ok2
 ·have HE:Hid (false=false):=rfl
  clear HE;have c0:=A5.out.cells
  go_wp2_with fail
  refine (l07Copy_any lo hh lo' hh' y tm ba bn bc ga gn gc S G _ HL.out HN.out HSB.out (HR.out.later B5.out) HGL.out HGN.out (HIS.out.later B5.out) HG0.out).mono ?_;rintro e w8 ⟨bv,gv,rfl,hot,hb8⟩;obtain ⟨a8,c8,a9,c9,hv8,hv9⟩:=hot.shape;rw [HL.out] at hv8;rw [HGL.out] at hv9;subst hv8;subst hv9;have r8:=R5.out.later hb8;have q1:=r8.cells;have q2:=r8.loose;have R8:=hid r8;have O8:=hid hot;have HK8:=hid R5.out.lt;have B8:=hid (btr B5.out hb8);clear r8 hot hb8 c0
  go_wp2
  have e2:=put4_grown w8 (w.heap.size+1+1) y tm (.slice a8 bn c8) (.slice a9 gn c9);have d1:=(R8.out.put4 y tm (.slice a8 bn c8) (.slice a9 gn c9)).cells;unfold put4 at d1 e2;have hk8:=HK8.out;refine bodyPost_ret (v:=.tuple #[.agg #[.int .i64 y,.int .i64 tm,.slice a8 bn c8,.slice a9 gn c9],.bool false]) (by simp [results,Tryz.results174,go_sem,d1]) rfl ⟨_,_,rfl,?_,?_⟩
  ·show OwT _ _ _ _ S G
   exact (O8.out.grown e2 (by omega)).base (by omega)
  have hbs:=B8.out.size;exact B8.out.trans (below_of_grown e2 (by omega) hbs)
 have o5:=O5.out.cells;have q1:=R5.out.cells;have q2:=R5.out.loose
 go_wp2
 have e2:=put4_grown w5 (w.heap.size+1+1) y (tm+1) (.slice (some ⟨g,0,none⟩) bn c8) (.slice a9 gn c9);have d1:=(R5.out.put4 y (tm+1) (.slice (some ⟨g,0,none⟩) bn c8) (.slice a9 gn c9)).cells;unfold put4 at d1 e2;have HS0:=S0.out;refine bodyPost_ret (v:=.tuple #[.agg #[.int .i64 y,.int .i64 (tm+1),.slice (some ⟨g,0,none⟩) bn c8,.slice a9 gn c9],.bool true]) (by simp [results,Tryz.results174,go_sem,d1]) rfl ⟨_,_,rfl,?_,?_⟩
 ·show OwT _ _ _ _ S1 G
  exact (HN5.out.set e2 (.inr rfl)).ot
 exact B5.out.trans (below_of_grown e2 (by omega) B5.out.size)
end Go.Proofs.YtdkedgedkgabnaaGreatDoor
