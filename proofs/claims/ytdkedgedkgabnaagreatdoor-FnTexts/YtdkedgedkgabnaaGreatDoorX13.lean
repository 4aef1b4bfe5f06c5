/- Skn, Stm, Sso, Sapp, Scp. -/
import Derived.Test.YtdkedgedkgabnaaGreatDoorX12
namespace Go.Proofs.YtdkedgedkgabnaaGreatDoor
open Go.RowKit Go.ChangeMaps
set_option maxHeartbeats 16000000
set_option maxRecDepth 100000
def hasG (x:Int) (b:X7):Bool:=b.2.2.2.2.2.1.any (fun m=>decide (m.1=x)) || inl x b.2.2.2.2.2.2
def kno (x:Int) (S:List X7) (G:List Int):Bool:=S.any (isG x) || (inl x G || S.any (hasG x))
theorem any_drop {α:Type} {p:α→Bool} {S:List α} {i:Nat} (h:i<S.length) (hp:p S[i]=false):(S.drop i).any p=(S.drop (i+1)).any p:=by
 rw [List.drop_eq_getElem_cons h,List.any_cons,hp,Bool.false_or]
theorem any_here {α:Type} {p:α→Bool} {S:List α} {i:Nat} (h:i<S.length) (hp:p S[i]=true):S.any p=true:=List.any_eq_true.2 ⟨S[i],List.getElem_mem h,hp⟩
theorem specKnows_any (lo hi lo' hi':Nat) (y tm:Int) (ba:Option Addr) (bn bc:Nat) (ga:Option Addr) (gn gc:Nat) (S:List X7) (G:List Int) (x:Int) (w:World) (hl:S.length=bn) (hn:bn≤1048576) (hsb:Sb S) (hm:Bs lo hi w ba S) (hgl:G.length=gn) (hgn:gn≤1048576) (hs:Is lo' hi' w ga G) :
  Calls Tryz.prog 171 #[.agg #[.int .i64 y,.int .i64 tm,.slice ba bn bc,.slice ga gn gc],.int .i64 x] w fun e w'=>e=.returned (.bool (kno x S G))∧Below w.heap.size w w':=by
 obtain ⟨W0,hW0⟩:∃ W0,w.alloc (.cells #[.int .i64 y,.int .i64 tm,.slice ba bn bc,.slice ga gn gc] 27)=W0:=⟨_,rfl⟩
 have a0:Sx W0 w.heap.size 27 y tm (.slice ba bn bc) (.slice ga gn gc):=by subst hW0;exact Sx.new w _ y tm _ _
 have b0:Below w.heap.size w W0:=by subst hW0;exact bpush (bre _) _
 obtain ⟨p1,hp1⟩:∃ p1,S.any (isG x)=p1:=⟨_,rfl⟩;obtain ⟨z1,hz1⟩:∃ z1,fidx (isG x) S 0=z1:=⟨_,rfl⟩
 have hpz:decide (0≤z1)=p1:=by rw [← hz1,fidx_any,hp1]
 obtain ⟨p2,hp2⟩:∃ p2,inl x G=p2:=⟨_,rfl⟩;have c0:=a0.cells;have A0:=hid a0;have B0:=hid b0;have HM:=hid hm;have HS:=hid hs;have HL:=hid hl;have HSB:=hid hsb;have HGL:=hid hgl;have HZ1:=hid hz1;have HP1:=hid hp1;have HP2:=hid hp2;have HN:=hid hn;have HGN:=hid hgn;clear a0 b0 hm hs hl hsb hgl hz1 hp1 hp2 hgn
 go_enter Tryz.func171,Tryz.ntmps171
 go_wp2_with fail
 clear hW0;refine (specBoxAt_any lo hi y tm ba bn bc (.slice ga gn gc) S x _ HL.out HN.out (HM.out.later B0.out)).mono ?_;rintro e w1 ⟨rfl,hb1⟩;rw [HZ1.out];have A1:=hid (A0.out.later hb1);have B1:=hid (btr B0.out hb1);clear hb1 A0 B0 c0
 cases p1
 ·have hz:¬ 0≤z1:=by simpa using hpz
  have c0:=A1.out.cells
  go_wp2_with fail
  refine (l06In_any lo' hi' ga gn gc G x _ HGL.out HGN.out (HS.out.later B1.out)).mono ?_;rintro e w2 ⟨rfl,hw2⟩;subst hw2;rw [HP2.out]
  cases p2
  ·go_wp2
   clear c0 hz hpz
   go_loopw [5] (fun iv wr=>∃ i:Nat,i≤bn∧iv=.int .i64 (i:Int)∧Hid (S.any (hasG x)=(S.drop i).any (hasG x))∧Below w2.heap.size w2 wr) (fun iv _=>bn - (intOf iv).toNat)
   case atStart=>exact ⟨0,Nat.zero_le _,rfl,rfl,bre _⟩
   case round =>
    obtain ⟨i,hi2,rfl,HQ,hb⟩:=hrel;have HBE:=hid hb;have A2:=hid (A1.out.later hb);have c0:=A2.out.cells;have hbn:=HN.out;clear hb
    by_cases hlt:i<bn
    ·have hil:i<S.length:=by rw [HL.out];exact hlt
     obtain ⟨k,o,ma,mc,ga1,gc1,rfl,hk,d,hms,his,_⟩:=(HM.out.later (btr B1.out HBE.out)).at hil;have hmem:=HSB.out S[i] (List.getElem_mem hil);obtain ⟨q,hq⟩:∃ q,S[i]=q:=⟨_,rfl⟩;obtain ⟨g1,nm1,t1,b1,nx1,L1,G1⟩:=q;rw [hq] at d hms his hmem;dsimp only at d hms his hmem;obtain ⟨m1,hm1⟩:∃ m1,L1.length=m1:=⟨_,rfl⟩;obtain ⟨n1,hn1⟩:∃ n1,G1.length=n1:=⟨_,rfl⟩;rw [hm1,hn1] at d hmem;have HD:=hid d;have HK:=hid hk;have HMS:=hid hms;have HIS:=hid his;have HM1:=hid hm1;have HN1:=hid hn1;have HML:=hid hmem.2.1;have HNL:=hid hmem.2.2.2;obtain ⟨q1,hq1⟩:∃ q1,L1.any (fun m=>decide (m.1=x))=q1:=⟨_,rfl⟩;obtain ⟨q2,hq2⟩:∃ q2,inl x G1=q2:=⟨_,rfl⟩;obtain ⟨z2,hz2⟩:∃ z2,mat x L1 0=z2:=⟨_,rfl⟩
     have hqz:decide (0≤z2)=q1:=by rw [← hz2,mat_any,hq1]
     have HH:Hid (hasG x S[i]=(q1 || q2)):=by show _=_;rw [hq,hasG,← hq1,← hq2]
     have HZ2:=hid hz2;have HQ2:=hid hq2
     have hI:(0:Int)≤(i:Int)∧(i:Int)<(bn:Int):=by omega
     have d0:=d;unfold C7 at d0;clear hq hms his hmem hm1 hn1 hq1 hq2 hz2 d hk
     go_wp2_with fail
     refine (specMailAt_any _ _ g1 nm1 t1 b1 nx1 ma m1 mc (.slice ga1 n1 gc1) L1 x _ HM1.out HML.out HMS.out).mono ?_;rintro e w3 ⟨rfl,hb3⟩;rw [HZ2.out];have A3:=hid (A2.out.later hb3);have HB3:=hid (btr HBE.out hb3);have d3:=HD.out.later HK.out hb3;have HIS3:=hid (HIS.out.later hb3);unfold C7 at d3;clear hb3 c0 d0
     cases q1
     ·have hz:¬ 0≤z2:=by simpa using hqz
      have c0:=A3.out.cells
      go_wp2_with fail
      refine (l06In_any _ _ ga1 n1 gc1 G1 x _ HN1.out HNL.out HIS3.out).mono ?_;rintro e w4 ⟨rfl,hw4⟩;subst hw4;rw [HQ2.out]
      cases q2
      ·have HE:Hid (S.any (hasG x)=(S.drop (i+1)).any (hasG x)):=by show _=_;rw [HQ.out];exact any_drop hil (by rw [HH.out];rfl)
       clear c0 d3 hz hqz
       go_wp2
       go_roundw
       case rel=>exact ⟨i+1,by omega,by go_num,HE,HB3.out⟩
       case measure=>simp [intOf];omega
      have HE:Hid (kno x S G=true):=by show _=_;rw [kno,any_here (p:=hasG x) hil (by rw [HH.out];rfl)];simp
      go_wp2
      go_ret
      exact ⟨by rw [HE.out];rfl,btr B1.out HB3.out⟩
     have hz:0≤z2:=by simpa using hqz
     have HE:Hid (kno x S G=true):=by show _=_;rw [kno,any_here (p:=hasG x) hil (by rw [HH.out];rfl)];simp
     have c0:=A3.out.cells
     go_wp2
     go_ret
     exact ⟨by rw [HE.out];rfl,btr B1.out HB3.out⟩
    have HE:Hid (kno x S G=false):=by
     show _=_
     rw [kno,HP1.out,HP2.out,HQ.out,List.drop_of_length_le (by rw [HL.out];omega)]
     rfl
    go_wp2
    go_ret
    exact ⟨by rw [HE.out];rfl,btr B1.out HBE.out⟩
  have HE:Hid (kno x S G=true):=by show _=_;rw [kno,HP2.out];simp
  go_wp2
  go_ret
  exact ⟨by rw [HE.out];rfl,B1.out⟩
 have hz:0≤z1:=by simpa using hpz
 have HE:Hid (kno x S G=true):=by show _=_;rw [kno,HP1.out];simp
 have c0:=A1.out.cells
 go_wp2
 go_ret
 exact ⟨by rw [HE.out];rfl,B1.out⟩
def tmF (tm:Int) (l:List R3):Bool:=l.all (fun p=>decide (p.2.1≤tm))
def tmOk (tm t:Int) (L:List M4):Bool:=decide (t≤tm)&&L.all (fun m=>tmF tm m.2.2.1)
theorem all_next {α:Type} {p:α→Bool} {S:List α} {i:Nat} (h:i<S.length) (ha:(S.take i).all p=true) (hp:p S[i]=true):(S.take (i+1)).all p=true:=by
 rw [List.take_succ_eq_append_getElem h,List.all_append,ha,Bool.true_and]
 simp [hp]
theorem all_no {α:Type} {p:α→Bool} {S:List α} {i:Nat} (h:i<S.length) (hp:p S[i]=false):S.all p=false:=by
 rw [List.all_eq_false];exact ⟨S[i],List.getElem_mem h,by simp [hp]⟩
theorem l07Times_any (lo hi:Nat) (g:Int) (nm:ByteArray) (t b nx:Int) (ma:Option Addr) (mn mc:Nat) (gv:Value) (L:List M4) (tm:Int) (w:World) (hl:L.length=mn) (hn:mn≤1048576) (hsm:Sm L) (hm:Ms lo hi w ma L) :
  Calls Tryz.prog 61 #[.agg #[.int .i64 g,.string nm,.int .i64 t,.int .i64 b,.int .i64 nx,.slice ma mn mc,gv],.int .i64 tm] w fun e w'=>e=.returned (.bool (tmOk tm t L))∧Below w.heap.size w w':=by
 obtain ⟨W0,hW0⟩:∃ W0,w.alloc (.cells #[.int .i64 g,.string nm,.int .i64 t,.int .i64 b,.int .i64 nx,.slice ma mn mc,gv] 38)=W0:=⟨_,rfl⟩
 have a0:Bx W0 w.heap.size 38 g nm t b nx (.slice ma mn mc) gv:=by subst hW0;exact Bx.new w _ g nm t b nx _ _
 have b0:Below w.heap.size w W0:=by subst hW0;exact bpush (bre _) _
 have c0:=a0.cells;have HR:=hid (hm.later b0);have B0:=hid b0;have HL:=hid hl;have HSM:=hid hsm;clear a0 b0 hm hl hsm
 by_cases ht:tm<t
 ·have HE:Hid (tmOk tm t L=false):=by show _=_;rw [tmOk,show decide (t≤tm)=false from by simp;omega];rfl
  go_enter Tryz.func61,Tryz.ntmps61
  go_wp2
  go_ret
  exact ⟨by rw [HE.out];rfl,B0.out⟩
 have HT:Hid (decide (t≤tm)=true):=by show _=_;simp;omega
 go_enter Tryz.func61,Tryz.ntmps61
 go_wp2
 clear hW0
 go_loopw [5] (fun iv wr=>∃ (i:Nat),i≤mn∧iv=.int .i64 (i:Int)∧Hid ((L.take i).all (fun m=>tmF tm m.2.2.1)=true)∧wr=W0) (fun iv _=>mn - (intOf iv).toNat)
 case atStart=>exact ⟨0,Nat.zero_le _,rfl,rfl,rfl⟩
 case round =>
  obtain ⟨i,hi,rfl,HQ,hw⟩:=hrel;subst hw
  by_cases hlt:i<mn
  ·have hil:i<L.length:=by rw [HL.out];exact hlt
   obtain ⟨k,o,fa,fc,rfl,hk,c,hrs,_⟩:=HR.out.at hil;have hmem:=HSM.out L[i] (List.getElem_mem hil);obtain ⟨l,hlq⟩:∃ l,L[i].2.2.1=l:=⟨_,rfl⟩;rw [hlq] at c hrs hmem;obtain ⟨m,hm⟩:∃ m,l.length=m:=⟨_,rfl⟩;rw [hm] at c hmem;have hml:m≤1048576:=hmem.1;have HLQ:=hid hlq;have HM:=hid hm;have HRS:=hid hrs;have c2:=c.2.2.1
   have hI:(0:Int)≤(i:Int)∧(i:Int)<(mn:Int):=by omega
   clear hlq hm hrs hmem c
   go_wp2
   go_loopw [6] (fun jv wr2=>∃ (j:Nat),j≤m∧jv=.int .i64 (j:Int)∧Hid (tmF tm (l.take j)=true)∧wr2=wr) (fun jv _=>m - (intOf jv).toNat)
   case atStart=>exact ⟨0,Nat.zero_le _,rfl,rfl,rfl⟩
   case round =>
    obtain ⟨j,hj,rfl,HQ2,hw2⟩:=hrel;subst hw2
    by_cases hjt:j<m
    ·have hjl:j<l.length:=by rw [HM.out];exact hjt
     obtain ⟨kf,of,rfl,hkf,hrow⟩:=HRS.out (by omega);have e:=(hrow j hjl).2.1;obtain ⟨z,hz⟩:∃ z,l[j].2.1=z:=⟨_,rfl⟩;rw [hz] at e
     have hJ:(0:Int)≤(j:Int)∧(j:Int)<(m:Int):=by omega
     by_cases hzt:tm<z
     ·have HE:Hid (tmOk tm t L=false):=by
       show _=_
       have h1:tmF tm l=false:=all_no hjl (by rw [hz];simp;omega);rw [tmOk,all_no hil (by rw [HLQ.out];exact h1),Bool.and_false]
      clear hz hrow
      go_wp2
      go_ret
      exact ⟨by rw [HE.out];rfl,B0.out⟩
     have HE:Hid (tmF tm (l.take (j+1))=true):=all_next hjl HQ2.out (by rw [hz];simp;omega);clear hz hrow
     go_wp2
     go_roundw
     case rel=>exact ⟨j+1,by omega,by go_num,HE,by first | rfl | trivial⟩
     case measure=>simp [intOf];omega
    have HE:Hid ((L.take (i+1)).all (fun m=>tmF tm m.2.2.1)=true):=by
     have h1:=HQ2.out;rw [List.take_of_length_le (by rw [HM.out];omega)] at h1;exact all_next hil HQ.out (by rw [HLQ.out];exact h1)
    go_wp2
    go_roundw
    case rel=>exact ⟨i+1,by omega,by go_num,HE,by first | rfl | trivial⟩
    case measure=>simp [intOf];omega
  have HE:Hid (tmOk tm t L=true):=by
   show _=_
   have h1:=HQ.out;rw [List.take_of_length_le (by rw [HL.out];omega)] at h1;rw [tmOk,HT.out,h1]
   rfl
  go_wp2
  go_ret
  exact ⟨by rw [HE.out];rfl,B0.out⟩
def gnM (mo:Int) (G:List Int):Bool:=asc 0 G&&decide ((G.length:Int)≤mo)
theorem gnM_bad {mo:Int} {G:List Int} (h:asc 0 G=false):gnM mo G=false:=by rw [gnM,h];rfl
theorem gnM_fin {mo:Int} {G:List Int} (h:asc 0 G=true):gnM mo G=decide ((G.length:Int)≤mo):=by rw [gnM,h];rfl
theorem l06SortedM_any (mo:Int) (lo hi:Nat) (ao:Option Addr) (n cap:Nat) (G:List Int) (w:World) (hl:G.length=n) (hn:n≤1048576) (hr:Is lo hi w ao G) :
  Calls Tryz.prog 58 #[.slice ao n cap,.int .i64 mo] w fun e w'=>e=.returned (.bool (gnM mo G))∧Below w.heap.size w w':=by
 have HR:=hid hr;have HL:=hid hl;clear hr hl
 go_enter Tryz.func58,Tryz.ntmps58
 go_wp2
 go_loopw [5] (fun iv wr=>∃ (i:Nat),i≤n∧iv=.int .i64 (i:Int)∧Hid (asc 0 (G.take i)=true)∧Below w.heap.size w wr) (fun iv _=>n - (intOf iv).toNat)
 case atStart=>exact ⟨0,Nat.zero_le _,rfl,rfl,bre _⟩
 case round =>
  obtain ⟨i,hi,rfl,HA,hb⟩:=hrel;have HB:=hid hb
  by_cases hlt:i<n
  ·have hil:i<G.length:=by rw [HL.out];exact hlt
   obtain ⟨k,o,rfl,hk,c⟩:=(HR.out.later hb).at hil;have hst:=asc_take hil;have hbad:=asc_bad hil;obtain ⟨x,hx⟩:∃ x,G[i]=x:=⟨_,rfl⟩;rw [hx] at c hst hbad;obtain ⟨p,hp,cp⟩:=in_l x;rw [← hp.out] at hst hbad
   have hI:(0:Int)≤(i:Int)∧(i:Int)<(n:Int):=by omega
   by_cases h0:i=0
   ·have HP:=hid (fun h:p=true=>gok_pos (hp.out ▸ h))
    have hl0:lst 0 (G.take i)=0:=by rw [h0];rfl
    rw [hl0] at hst hbad;have HST:=hid hst;have HBD:=hid hbad;have HS:Hid (∀ W,Below wr.heap.size wr W→W.cell? ⟨k,o+i,none⟩=some (.int .i64 x)):=fun W h=>(h.cell (p:=⟨k,_,none⟩) hk).trans c
    have hpos:¬ (0:Int)<(i:Int):=by omega
    have hposN:¬ 0<i:=by omega
    clear hst hbad hb c hx h0 hl0
    go_wp2_with fail
    refine wp_region_noPanic ?_;refine wp_region_held_drew (S:=(fun W=>W.cell? ⟨k,o+i,none⟩=some (.int .i64 x))) (by kernel_rfl) (HS.out _ (bdr (bre _))) (fun hHeld=>?_);refine tk 0 ?_;refine tk 1 ?_;refine tk 2 ?_;refine tk 3 ?_;clear hHeld;refine ry 4 (fun K hK=>?_);go_simp;refine (cp.out _).mono ?_;rintro e w1 ⟨rfl,h1⟩;subst h1
    go_wp2_with fail
    refine hK.out _ _ (HS.out _ bb) (fun hHeld=>?_);clear hK K;try simp only [Act.put,tq]
    cases p
    ·refine tk 5 ?_
     refine tk 6 ?_;refine tn 7 ?_;refine tn 8 ?_;refine tn 9 ?_;refine tn 10 ?_;refine tn 11 ?_;refine tn 12 ?_;refine tn 13 ?_;refine tn 14 ?_;refine tn 15 ?_;refine tn 16 ?_;refine tn 17 ?_;refine tn 18 ?_;refine tn 19 ?_;refine tn 20 ?_;refine tk 21 ?_;refine dn ?_;have HE:Hid (gnM mo G=false):=gnM_bad (HBD.out (by simp));clear hHeld
     go_wp2
     go_ret
     exact ⟨by rw [HE.out];rfl,btr HB.out bb⟩
    refine tk 5 ?_;refine tk 6 ?_;refine tk 7 ?_
    ·refine tk 8 ?_
     refine tk 9 ?_;refine tn 10 ?_;refine tn 11 ?_;refine tn 12 ?_;refine tn 13 ?_;refine tn 14 ?_;refine tn 15 ?_;refine tn 16 ?_;refine tn 17 ?_;refine tn 18 ?_;refine tn 19 ?_;refine tk 20 ?_;refine tk 21 ?_;refine dn ?_
     have HE:Hid (asc 0 (G.take (i+1))=true):=by show _=_;rw [HST.out,HA.out];simp [HP.out rfl]
     clear hHeld
     go_wp2
     go_roundw
     case rel=>exact ⟨i+1,by omega,by go_num,HE,btr HB.out bb⟩
     case measure=>simp [intOf];omega
   obtain ⟨j,hj⟩:∃ j:Nat,i=j+1:=⟨i - 1,by omega⟩
   have hjl:j<G.length:=by omega
   obtain ⟨k',o',e',hk',c'⟩:=(HR.out.later hb).at hjl;simp only [Option.some.injEq,Addr.mk.injEq,and_true] at e';obtain ⟨rfl,rfl⟩:=e';obtain ⟨y,hy⟩:∃ y,G[j]=y:=⟨_,rfl⟩
   have hly:lst 0 (G.take i)=y:=by rw [hj,lst_take hjl,hy]
   rw [hy] at c';rw [hly] at hst hbad
   have hij:(i:Int) - 1=(j:Int):=by omega
   have hwj:IntKind.i64.wrap (j:Int)=(j:Int):=by rw [IntKind.wrap_i64];omega
   have hJ:(0:Int)≤(j:Int)∧(j:Int)<(n:Int):=by omega
   have hpos:(0:Int)<(i:Int):=by omega
   have hposN:0<i:=by omega
   have HST:=hid hst;have HBD:=hid hbad;have HS:Hid (∀ W,Below wr.heap.size wr W→W.cell? ⟨k,o+i,none⟩=some (.int .i64 x)∧W.cell? ⟨k,o+j,none⟩=some (.int .i64 y)):=fun W h=>⟨(h.cell (p:=⟨k,_,none⟩) hk).trans c,(h.cell (p:=⟨k,_,none⟩) hk).trans c'⟩;clear hst hbad hb c c' hx hy hly hj
   go_wp2_with fail
   refine wp_region_noPanic ?_;refine wp_region_held_drew (S:=(fun W=>W.cell? ⟨k,o+i,none⟩=some (.int .i64 x)∧W.cell? ⟨k,o+j,none⟩=some (.int .i64 y))) (by kernel_rfl) (HS.out _ (bdr (bre _))) (fun hHeld=>?_);refine tk 0 ?_;refine tk 1 ?_;refine tk 2 ?_;refine tk 3 ?_;clear hHeld;refine ry 4 (fun K hK=>?_);go_simp;refine (cp.out _).mono ?_;rintro e w1 ⟨rfl,h1⟩;subst h1
   go_wp2_with fail
   refine hK.out _ _ (HS.out _ bb) (fun hHeld=>?_);clear hK K;try simp only [Act.put,tq]
   cases p
   ·refine tk 5 ?_
    refine tk 6 ?_;refine tn 7 ?_;refine tn 8 ?_;refine tn 9 ?_;refine tn 10 ?_;refine tn 11 ?_;refine tn 12 ?_;refine tn 13 ?_;refine tn 14 ?_;refine tn 15 ?_;refine tn 16 ?_;refine tn 17 ?_;refine tn 18 ?_;refine tn 19 ?_;refine tn 20 ?_;refine tk 21 ?_;refine dn ?_;have HE:Hid (gnM mo G=false):=gnM_bad (HBD.out (by simp));clear hHeld
    go_wp2
    go_ret
    exact ⟨by rw [HE.out];rfl,btr HB.out bb⟩
   refine tk 5 ?_;refine tk 6 ?_;refine tk 7 ?_
   ·refine tk 8 ?_
    refine tk 9 ?_;refine tk 10 ?_;refine tk 11 ?_;refine tk 12 ?_;refine tk 13 ?_;refine tk 14 ?_;refine tk 15 ?_;refine tk 16 ?_;refine tk 17 ?_;refine tk 18 ?_
    by_cases hle:y<x
    ·refine tk 19 ?_
     refine tk 20 ?_;refine tk 21 ?_;refine dn ?_
     have HE:Hid (asc 0 (G.take (i+1))=true):=by show _=_;rw [HST.out,HA.out];simp [hle]
     clear hHeld
     go_wp2
     go_roundw
     case rel=>exact ⟨i+1,by omega,by go_num,HE,btr HB.out bb⟩
     case measure=>simp [intOf];omega
    refine tk 19 ?_;refine tk 20 ?_;refine tk 21 ?_;refine dn ?_;have HE:Hid (gnM mo G=false):=gnM_bad (HBD.out (by simp [hle]));clear hHeld
    go_wp2
    go_ret
    exact ⟨by rw [HE.out];rfl,btr HB.out bb⟩
  have HE:Hid (gnM mo G=decide ((n:Int)≤mo)):=by
   show _=_
   have:=HA.out;rw [List.take_of_length_le (by rw [HL.out];omega)] at this;rw [gnM_fin this,HL.out]
  go_wp2
  go_ret
  exact ⟨by rw [HE.out];rfl,HB.out⟩
theorem yc_one {y:Y9} (h1:∃ a k c,y.mv=.slice a k c) (h2:∃ a k c,y.gv=.slice a k c):∀ u∈yc [y],u.oneCell'=true:=by
 obtain ⟨a,k,c,e1⟩:=h1;obtain ⟨a',k',c',e2⟩:=h2;intro u hu;simp only [yc,List.mem_cons,List.not_mem_nil,or_false] at hu
 rcases hu with rfl | rfl | rfl | rfl | rfl | rfl | rfl
 ·rfl
 ·rfl
 ·rfl
 ·rfl
 ·rfl
 ·rw [e1];rfl
 rw [e2];rfl
theorem OwX.slices {W:World} {lo hi:Nat} {mv gv:Value} {L:List M4} {G:List Int} (h:OwX W lo hi mv gv L G):(∃ a k c,mv=.slice a k c)∧∃ a k c,gv=.slice a k c:=by
 obtain ⟨a,c,a',c',h1,h2,_⟩:=h.reads;exact ⟨⟨_,_,_,h1⟩,⟨_,_,_,h2⟩⟩
theorem step_append_bx {ops:Array Oper} {o:Oper} {a:Act} {w:World} {K:Act→World→Prop} {Q:Exit→Act→World→Prop} {E:Prop}
  (hg:o.guard=none) (s x:Operand) (hop:o.op=Op.call { callee:=Callee.builtin Builtin.append,args:=#[s,x],argTypes:=#[24,24] })
  (B:Nat) (v:Value) (Y:List Y9) (hs:a.eval s=v) (y:Y9) (hown:OwS w B v Y) (ho:OwX w y.lo y.hi y.mv y.gv y.L y.G) (hB:B≤y.lo) (hv:∀ j,v.ownBlock=some j→j<y.lo∨y.hi≤j) (hd:∀ x∈Y,x.hi≤y.lo∨y.hi≤x.lo)
  (hx:a.eval x=.slice (some ⟨w.heap.size,0,none⟩) 1 1) (hlen:Y.length≤1048576) (hBw:B≤w.heap.size)
  (hK:∀ v' w',OwS w' B v' (Y++[y])→Below B w w'→(w.alloc (.cells #[.int .i64 y.g,.string y.nm,.int .i64 y.t,.int .i64 y.b,.int .i64 y.nx,y.mv,y.gv] 38)).grownBy w' v.ownBlock→(∀ j,v'.ownBlock=some j→v.ownBlock=some j∨w.heap.size<j)→K (a.put o.dst v') w') :
  if Region.wanted o (yielded ops a.tmps)=true then Oper.wp Tryz.prog o a (w.alloc (.cells #[.int .i64 y.g,.string y.nm,.int .i64 y.t,.int .i64 y.b,.int .i64 y.nx,y.mv,y.gv] 38)) K Q else E:=by
 have hw:Region.wanted o (yielded ops a.tmps)=true:=by simp [Region.wanted,hg]
 rw [if_pos hw];obtain ⟨i0,hi,hz0,hz1,hz2⟩:=info_parts3 info_bx;obtain ⟨v',w',hr,h2,h3,h4,h5⟩:=run_append_own_at (P:=Tryz.prog) (w.alloc (.cells #[.int .i64 y.g,.string y.nm,.int .i64 y.t,.int .i64 y.b,.int .i64 y.nx,y.mv,y.gv] 38)) B 24 o.type 38 i0 _ 7 96 Tryz.underlying24 hi hz0 hz1 hz2 rfl (by decide) v _ _ (hown.row.alloc _) ⟨w.heap.size,0,none⟩ 1 1 (yc [y]) rfl (cells_new7 w y 38) (yc_one ho.slices.1 ho.slices.2) (by unfold maxLen;omega) (by omega) (by simp;omega);unfold Oper.wp execOp;simp only [hop,resolve,invoke,builtin,Sem.run_bind,Sem.run_pure,Result.andThen_ok,List.map_toArray,List.map_cons,List.map_nil,hs,hx,hr]
 have hloc:∀ j,v'.ownBlock=some j→v.ownBlock=some j∨w.heap.size<j:=fun j hj=>by
  rcases h5 with h5 | h5
  ·exact .inl (by rw [← h5];exact hj)
  rw [h5] at hj;simp at hj;exact .inr (by omega)
 exact hK v' w' (hown.snoc y ho hB hv hd _ (by rw [yc_app];simpa using h2) h3 hloc) (((Below.refl B w).alloc hBw _).grown h3 (by simp;omega) (fun k hk=>(hown.row.lt k hk).1)) h3 hloc
theorem wpList_append_bx {ops:Array Oper} {rest:List Oper} {o:Oper} {a:Act} {w:World} {Q:Exit→Act→World→Prop} (hgd:o.guard=none) (s x:Operand)
  (hop:o.op=.call { callee:=.builtin .append,args:=#[s,x],argTypes:=#[24,24] })
  (B:Nat) (v:Value) (Y:List Y9) (hs:a.eval s=v) (y:Y9) (hown:OwS w B v Y) (ho:OwX w y.lo y.hi y.mv y.gv y.L y.G) (hB:B≤y.lo) (hv:∀ j,v.ownBlock=some j→j<y.lo∨y.hi≤j) (hd:∀ x∈Y,x.hi≤y.lo∨y.hi≤x.lo)
  (hx:a.eval x=.slice (some ⟨w.heap.size,0,none⟩) 1 1) (hlen:Y.length≤1048576) (hBw:B≤w.heap.size)
  (hK:∀ v' w',OwS w' B v' (Y++[y])→Below B w w'→(w.alloc (.cells #[.int .i64 y.g,.string y.nm,.int .i64 y.t,.int .i64 y.b,.int .i64 y.nx,y.mv,y.gv] 38)).grownBy w' v.ownBlock→(∀ j,v'.ownBlock=some j→v.ownBlock=some j∨w.heap.size<j)→wpList Tryz.prog ops Q rest (a.put o.dst v') w') :
  wpList Tryz.prog ops Q (o::rest) a (w.alloc (.cells #[.int .i64 y.g,.string y.nm,.int .i64 y.t,.int .i64 y.b,.int .i64 y.nx,y.mv,y.gv] 38)):=by
 obtain ⟨i0,hi,hz0,hz1,hz2⟩:=info_parts3 info_bx;refine wpList_append_own_at _ hgd s x 24 hop B 38 i0 _ 7 96 Tryz.underlying24 hi hz0 hz1 hz2 rfl (by decide) v _ _ hs (hown.row.alloc _) ⟨w.heap.size,0,none⟩ 1 1 (yc [y]) hx rfl (cells_new7 w y 38) (yc_one ho.slices.1 ho.slices.2) (by unfold maxLen;omega) (by omega) (by simp;omega) ?_;intro v' w' h2 h3 h4 h5
 have hloc:∀ j,v'.ownBlock=some j→v.ownBlock=some j∨w.heap.size<j:=fun j hj=>by
  rcases h5 with h5 | h5
  ·exact .inl (by rw [← h5];exact hj)
  rw [h5] at hj;simp at hj;exact .inr (by omega)
 exact hK v' w' (hown.snoc y ho hB hv hd _ (by rw [yc_app];simpa using h2) h3 hloc) (((Below.refl B w).alloc hBw _).grown h3 (by simp;omega) (fun k hk=>(hown.row.lt k hk).1)) h3 hloc
theorem three_stores (w:World) (ta tb tc:Nat) (y tm y1 tm1 y2 tm2:Int) (bv gv bv1 gv1 bv2 gv2:Value) (W0:World)
  (h:(((w.alloc (.cells #[.int .i64 y,.int .i64 tm,bv,gv] ta)).alloc (.cells #[.int .i64 y1,.int .i64 tm1,bv1,gv1] tb)).alloc (.cells #[.int .i64 y2,.int .i64 tm2,bv2,gv2] tc))=W0) :
  Sx W0 w.heap.size ta y tm bv gv∧Sx W0 (w.heap.size+1) tb y1 tm1 bv1 gv1∧Sx W0 (w.heap.size+1+1) tc y2 tm2 bv2 gv2∧Below w.heap.size w W0∧W0.heap.size=w.heap.size+1+1+1:=by
 have e1:(w.alloc (.cells #[.int .i64 y,.int .i64 tm,bv,gv] ta)).heap.size=w.heap.size+1:=by simp
 have e2:((w.alloc (.cells #[.int .i64 y,.int .i64 tm,bv,gv] ta)).alloc (.cells #[.int .i64 y1,.int .i64 tm1,bv1,gv1] tb)).heap.size=w.heap.size+1+1:=by simp
 have h1:=Sx.new (w.alloc (.cells #[.int .i64 y,.int .i64 tm,bv,gv] ta)) tb y1 tm1 bv1 gv1;have h2:=Sx.new ((w.alloc (.cells #[.int .i64 y,.int .i64 tm,bv,gv] ta)).alloc (.cells #[.int .i64 y1,.int .i64 tm1,bv1,gv1] tb)) tc y2 tm2 bv2 gv2;rw [e1] at h1;rw [e2] at h2;subst h;exact ⟨(Sx.new w ta y tm bv gv).later (bpush (bpush (bre _) _) _),h1.later (bpush (bre _) _),h2,bpush (bpush (bpush (bre _) _) _) _,by simp⟩
theorem l07Copy_any (lo hh lo' hh':Nat) (y tm:Int) (ba:Option Addr) (bn bc:Nat) (ga:Option Addr) (gn gc:Nat) (S:List X7) (G:List Int) (w:World) (hl:S.length=bn) (hn:bn≤1048576) (hsm:Sb S) (hm:Bs lo hh w ba S) (hgl:G.length=gn) (hgn:gn≤1048576) (hs:Is lo' hh' w ga G) (hg0:ga=none→gc=0) :
  Calls Tryz.prog 56 #[.agg #[.int .i64 y,.int .i64 tm,.slice ba bn bc,.slice ga gn gc]] w fun e w'=>∃ bv gv,e=.returned (.agg #[.int .i64 y,.int .i64 tm,bv,gv])∧OwT w' w.heap.size bv gv S G∧Below w.heap.size w w':=by
 obtain ⟨W0,hW0⟩:∃ W0,(((w.alloc (.cells #[.int .i64 y,.int .i64 tm,.slice ba bn bc,.slice ga gn gc] 27)).alloc (.cells #[.int .i64 0,.int .i64 0,.slice none 0 0,.slice none 0 0] 27)).alloc (.cells #[.int .i64 y,.int .i64 tm,.slice ba bn bc,.slice ga gn gc] 27))=W0:=⟨_,rfl⟩;obtain ⟨a0,a1,a2,b0,s0⟩:=three_stores w _ _ _ _ _ _ _ _ _ _ _ _ _ _ _ W0 hW0;obtain ⟨W1,hW1⟩:∃ W1,(W0.alloc (.cells #[] 38)).setCell ⟨w.heap.size+1+1,2,none⟩ (.slice (some ⟨w.heap.size+1+1+1,0,none⟩) 0 0)=W1:=⟨_,rfl⟩;have b1:Below W0.heap.size W0 (W0.alloc (.cells #[] 38)):=bpush (bre _) _
 have G1:(W0.alloc (.cells #[] 38)).grownBy W1 (some (w.heap.size+1+1)):=by subst hW1;exact wst (wre _ _) _ _
 have e0:=(a0.later b1).off G1 (by omega);have e1:=(a1.later b1).off G1 (by omega)
 have e2:Sx W1 (w.heap.size+1+1) 27 y tm (.slice (some ⟨w.heap.size+1+1+1,0,none⟩) 0 0) (.slice ga gn gc):=by subst hW1;exact (a2.later b1).s2 _
 have ez:=(ownS_empty W0 (w.heap.size+1+1+1) (by omega)).grown G1 (by omega);rw [s0] at ez;have eb:Below w.heap.size w W1:=(btr b0 b1).trans (below_of_grown G1 (by omega) (by have:=b1.size;omega))
 have es:w.heap.size+1+1+1≤W1.heap.size:=by have h1:=G1.size;have h2:=b1.size;omega
 have E0:=hid e0;have E1:=hid e1;have E2:=hid e2;have EZ:=hid ez;have EB:=hid eb;have ES:=hid es;have HL:=hid hl;have HN:=hid hn;have HSM:=hid hsm;have HR:=hid hm;have HGL:=hid hgl;have HGN:=hid hgn;have HIS:=hid hs;have HG0:=hid hg0;have k0:=(a2.later b1).cells;have f0:=(a2.later b1).loose;have c0:=a0.cells;clear a0 a1 a2 b0 b1 G1 e0 e1 e2 ez eb es hl hsm hm hgl hgn hs hg0
 go_enter Tryz.func56,Tryz.ntmps56
 go_wp2
 clear hW1 hW0 k0 f0 c0 s0
 go_loopw [4] (fun iv wr=>∃ i:Nat,i≤bn∧iv=.int .i64 (i:Int)∧∃ (Y:List Y9) (vv:Value),Y.map yd=S.take i∧OwS wr (w.heap.size+1+1+1) vv Y∧Sx wr (w.heap.size+1+1) 27 y tm vv (.slice ga gn gc)∧Sx wr w.heap.size 27 y tm (.slice ba bn bc) (.slice ga gn gc)∧Sx wr (w.heap.size+1) 27 0 0 (.slice none 0 0) (.slice none 0 0)∧w.heap.size+1+1+1≤wr.heap.size∧Below w.heap.size w wr) (fun iv _=>bn - (intOf iv).toNat)
 case atStart=>exact ⟨0,Nat.zero_le _,rfl,[],_,rfl,EZ.out,E2.out,E0.out,E1.out,ES.out,EB.out⟩
 case round =>
  obtain ⟨i,hin,rfl,Y,vv,hZ,hoz,hbx,hax,hrx,hsz,hb⟩:=hrel;have HZT:=hid hZ;have HOZ:=hid hoz;have AX:=hid hbx;have A6:=hid hax;have RX:=hid hrx;have HBW:=hid hsz;have HB:=hid hb
  have HWR:Hid (w.heap.size+1≤wr.heap.size):=by show _≤_;omega
  have HOL:Hid (w.heap.size+1+1<wr.heap.size):=hbx.lt;have co:=hbx.cells.2.2.1;have c0:=hax.cells;clear hZ hoz hbx hax hrx hsz hb
  by_cases hlt:i<bn
  ·have hil:i<S.length:=by rw [HL.out];exact hlt
   obtain ⟨k,o,ma1,mc1,ga1,gc1,rfl,hk,d,hms,his,_,hz1⟩:=HR.out.at hil;have hmem:=HSM.out S[i] (List.getElem_mem hil);obtain ⟨q,hq⟩:∃ q,S[i]=q:=⟨_,rfl⟩;obtain ⟨g1,nm1,t1,b1,nx1,L1,G1⟩:=q;rw [hq] at d hms his hmem;dsimp only at d hms his hmem;have HMS:=hid (hms.later HB.out);have HIS1:=hid (his.later HB.out);obtain ⟨m1,hm1⟩:∃ m1,L1.length=m1:=⟨_,rfl⟩;obtain ⟨n1,hn1⟩:∃ n1,G1.length=n1:=⟨_,rfl⟩;rw [hm1,hn1] at d;rw [hm1,hn1] at hmem;have HM1:=hid hm1;have HN1:=hid hn1;have HML:=hid hmem.2.1;have HSL:=hid hmem.2.2.1;have HNL:=hid hmem.2.2.2;have HZ1:=hid hz1;have HQ:=hid hq
   have HZL:Hid (Y.length≤1048576):=by
    show _≤_
    have h1:=congrArg List.length HZT.out;have h2:=HN.out
    simp at h1
    omega
   have hI:(0:Int)≤(i:Int)∧(i:Int)<(bn:Int):=by omega
   have HSS:Hid (∀ W,Below (w.heap.size+1) wr W→(W.cell? ⟨w.heap.size,0,none⟩=some (.int .i64 y)∧W.cell? ⟨w.heap.size,1,none⟩=some (.int .i64 tm)∧W.cell? ⟨w.heap.size,2,none⟩=some (.slice (some ⟨k,o,none⟩) bn bc)∧W.cell? ⟨w.heap.size,3,none⟩=some (.slice ga gn gc))∧(W.cell? ⟨k,o+i*7,none⟩=some (.int .i64 g1)∧W.cell? ⟨k,o+i*7+1,none⟩=some (.string nm1)∧W.cell? ⟨k,o+i*7+2,none⟩=some (.int .i64 t1)∧W.cell? ⟨k,o+i*7+3,none⟩=some (.int .i64 b1)∧W.cell? ⟨k,o+i*7+4,none⟩=some (.int .i64 nx1)∧W.cell? ⟨k,o+i*7+5,none⟩=some (.slice ma1 m1 mc1)∧W.cell? ⟨k,o+i*7+6,none⟩=some (.slice ga1 n1 gc1))):=fun W h =>
    ⟨Sx.cells ((h.block w.heap.size (by omega)).trans A6.out),(d.later hk HB.out).same (h.block k (by omega))⟩
   clear hq hms his hmem hm1 hn1 hz1 d hk
   go_wp2_with fail
   clear c0;refine wp_region_noPanic ?_;refine wp_region_held_drew (S:=(fun W=>(W.cell? ⟨w.heap.size,0,none⟩=some (.int .i64 y)∧W.cell? ⟨w.heap.size,1,none⟩=some (.int .i64 tm)∧W.cell? ⟨w.heap.size,2,none⟩=some (.slice (some ⟨k,o,none⟩) bn bc)∧W.cell? ⟨w.heap.size,3,none⟩=some (.slice ga gn gc))∧(W.cell? ⟨k,o+i*7,none⟩=some (.int .i64 g1)∧W.cell? ⟨k,o+i*7+1,none⟩=some (.string nm1)∧W.cell? ⟨k,o+i*7+2,none⟩=some (.int .i64 t1)∧W.cell? ⟨k,o+i*7+3,none⟩=some (.int .i64 b1)∧W.cell? ⟨k,o+i*7+4,none⟩=some (.int .i64 nx1)∧W.cell? ⟨k,o+i*7+5,none⟩=some (.slice ma1 m1 mc1)∧W.cell? ⟨k,o+i*7+6,none⟩=some (.slice ga1 n1 gc1)))) (by kernel_rfl) (HSS.out _ (Below.drew (Below.refl _ _))) (fun hHeld=>?_);refine tk 0 ?_;refine tk 2 ?_;refine tk 3 ?_;refine tk 4 ?_;refine tk 5 ?_;refine tk 6 ?_;clear hHeld;refine wpAnyH_ready (rs:=[1,7]) (by kernel_rfl) (by simp) ?_;refine rc (fun K hK=>?x5) ?y5
   case' x5 =>
    go_simp;refine hK.out _ _ (HSS.out _ (Below.drew (Below.refl _ _))) (fun hHeld=>?_);clear hK K;try simp only [Act.put,tq]
    clear hHeld;refine ry 7 (fun K hK=>?_);go_simp;refine (l06Copy_any _ _ _ _ g1 nm1 t1 b1 nx1 ma1 m1 mc1 ga1 n1 gc1 L1 G1 _ HM1.out HML.out HSL.out (HMS.out.later (bdr (bre _))) HN1.out HNL.out (HIS1.out.later (bdr (bre _))) HZ1.out).mono ?_;rintro e w2 ⟨mv2,gv2,rfl,how,hb2⟩;have how2:=how.owx;obtain ⟨a2,c2,d2,e2,q1,q2,_⟩:=how2.reads;rw [HM1.out] at q1;rw [HN1.out] at q2;subst q1;subst q2;have B2:=hid (show Below wr.heap.size wr w2 from btr (bdr (bre _)) hb2);have HOW:Hid (OwX w2 wr.heap.size w2.heap.size (.slice a2 m1 c2) (.slice d2 n1 e2) L1 G1):=how2;have o2:=(B2.out.cell (p:=⟨w.heap.size+1+1,2,none⟩) HOL.out).trans co;have o3:=((bpush (bre w2) (.cells #[.int .i64 g1,.string nm1,.int .i64 t1,.int .i64 b1,.int .i64 nx1,.slice a2 m1 c2,.slice d2 n1 e2] 38)).cell (p:=⟨w.heap.size+1+1,2,none⟩) (Nat.lt_of_lt_of_le HOL.out B2.out.size)).trans o2;clear hb2 how how2
    go_wp2_with fail
    refine hK.out _ _ (HSS.out _ (B2.out.mono HWR.out)) (fun hHeld=>?_);clear hK K;try simp only [Act.put,tq]
    clear hHeld;refine ry 8 (fun K hK=>?_);go_simp;refine hK.out _ _ (HSS.out _ ((B2.out.mono HWR.out).trans ((Below.refl _ _).alloc (Nat.le_trans HWR.out B2.out.size) _))) (fun hHeld=>?_);clear hK K;try simp only [Act.put,tq]
    clear hHeld;refine ry 9 (fun K hK=>?_);refine step_append_bx rfl (.tmp 16) (.tmp 23) rfl (w.heap.size+1+1+1) _ Y (by rfl) (⟨g1,nm1,t1,b1,nx1,.slice a2 m1 c2,.slice d2 n1 e2,L1,G1,wr.heap.size,w2.heap.size⟩:Y9) (HOZ.out.later B2.out) HOW.out HBW.out (fun j hj=>.inl (HOZ.out.row.lt j hj).2) (fun x hx=>.inl (HOZ.out.each x hx).1.top) (by rfl) HZL.out (Nat.le_trans HBW.out B2.out.size) ?_;intro v3 w3 hown3 hb3 _ _;obtain ⟨a3,c3,hv3⟩:=hown3.shape;simp only [List.length_append,List.length_cons,List.length_nil,Nat.zero_add] at hv3;subst hv3;have HO3:=hid hown3;have B3:=hid (show Below (w.heap.size+1+1+1) wr w3 from (B2.out.mono HBW.out).trans hb3);have x3:=(AX.out.later B2.out);have x4:Sx w3 (w.heap.size+1+1) 27 y tm vv (.slice ga gn gc):=(hb3.block (w.heap.size+1+1) (by omega)).trans x3;have k3:=x4.cells;have f3:=x4.loose;have X4:=hid x4;clear hown3 hb3 x3 x4;refine hK.out _ _ (HSS.out _ (B3.out.mono (by omega))) (fun hHeld=>?_);clear hK K;try simp only [Act.put,tq]
    refine tk 10 ?_;clear hHeld;refine ry 11 (fun K hK=>?_);go_simp;refine hK.out _ _ (HSS.out _ (B3.out.mono (by omega) |>.trans ((Below.refl _ _).setCell (p:=⟨w.heap.size+1+1,2,none⟩) (show w.heap.size+1≤w.heap.size+1+1 by omega) _))) (fun hHeld=>?_);clear hK K;try simp only [Act.put,tq]
    refine dn ?_
   case' y5 =>
    refine rl (fun K hK=>?_);go_simp;refine (l06Copy_any _ _ _ _ g1 nm1 t1 b1 nx1 ma1 m1 mc1 ga1 n1 gc1 L1 G1 _ HM1.out HML.out HSL.out (HMS.out.later (bdr (bre _))) HN1.out HNL.out (HIS1.out.later (bdr (bre _))) HZ1.out).mono ?_;rintro e w2 ⟨mv2,gv2,rfl,how,hb2⟩;have how2:=how.owx;obtain ⟨a2,c2,d2,e2,q1,q2,_⟩:=how2.reads;rw [HM1.out] at q1;rw [HN1.out] at q2;subst q1;subst q2;have B2:=hid (show Below wr.heap.size wr w2 from btr (bdr (bre _)) hb2);have HOW:Hid (OwX w2 wr.heap.size w2.heap.size (.slice a2 m1 c2) (.slice d2 n1 e2) L1 G1):=how2;have o2:=(B2.out.cell (p:=⟨w.heap.size+1+1,2,none⟩) HOL.out).trans co;have o3:=((bpush (bre w2) (.cells #[.int .i64 g1,.string nm1,.int .i64 t1,.int .i64 b1,.int .i64 nx1,.slice a2 m1 c2,.slice d2 n1 e2] 38)).cell (p:=⟨w.heap.size+1+1,2,none⟩) (Nat.lt_of_lt_of_le HOL.out B2.out.size)).trans o2;clear hb2 how how2
    go_wp2_with fail
    refine hK.out _ _ (HSS.out _ (B2.out.mono HWR.out)) (fun hHeld=>?_);clear hK K;try simp only [Act.put,tq]
    clear hHeld;refine wpAnyH_ready (rs:=[1,8]) (by kernel_rfl) (by simp) ?_;refine rc (fun K hK=>?x6) ?y6
    case' x6 =>
     go_simp;refine hK.out _ _ (HSS.out _ (B2.out.mono HWR.out)) (fun hHeld=>?_);clear hK K;try simp only [Act.put,tq]
     clear hHeld;refine ry 8 (fun K hK=>?_);go_simp;refine hK.out _ _ (HSS.out _ ((B2.out.mono HWR.out).trans ((Below.refl _ _).alloc (Nat.le_trans HWR.out B2.out.size) _))) (fun hHeld=>?_);clear hK K;try simp only [Act.put,tq]
     clear hHeld;refine ry 9 (fun K hK=>?_);refine step_append_bx rfl (.tmp 16) (.tmp 23) rfl (w.heap.size+1+1+1) _ Y (by rfl) (⟨g1,nm1,t1,b1,nx1,.slice a2 m1 c2,.slice d2 n1 e2,L1,G1,wr.heap.size,w2.heap.size⟩:Y9) (HOZ.out.later B2.out) HOW.out HBW.out (fun j hj=>.inl (HOZ.out.row.lt j hj).2) (fun x hx=>.inl (HOZ.out.each x hx).1.top) (by rfl) HZL.out (Nat.le_trans HBW.out B2.out.size) ?_;intro v3 w3 hown3 hb3 _ _;obtain ⟨a3,c3,hv3⟩:=hown3.shape;simp only [List.length_append,List.length_cons,List.length_nil,Nat.zero_add] at hv3;subst hv3;have HO3:=hid hown3;have B3:=hid (show Below (w.heap.size+1+1+1) wr w3 from (B2.out.mono HBW.out).trans hb3);have x3:=(AX.out.later B2.out);have x4:Sx w3 (w.heap.size+1+1) 27 y tm vv (.slice ga gn gc):=(hb3.block (w.heap.size+1+1) (by omega)).trans x3;have k3:=x4.cells;have f3:=x4.loose;have X4:=hid x4;clear hown3 hb3 x3 x4;refine hK.out _ _ (HSS.out _ (B3.out.mono (by omega))) (fun hHeld=>?_);clear hK K;try simp only [Act.put,tq]
     refine tk 10 ?_;clear hHeld;refine ry 11 (fun K hK=>?_);go_simp;refine hK.out _ _ (HSS.out _ (B3.out.mono (by omega) |>.trans ((Below.refl _ _).setCell (p:=⟨w.heap.size+1+1,2,none⟩) (show w.heap.size+1≤w.heap.size+1+1 by omega) _))) (fun hHeld=>?_);clear hK K;try simp only [Act.put,tq]
     refine dn ?_
    case' y6 =>
     refine rl (fun K hK=>?_);go_simp;refine hK.out _ _ (HSS.out _ ((B2.out.mono HWR.out).trans ((Below.refl _ _).alloc (Nat.le_trans HWR.out B2.out.size) _))) (fun hHeld=>?_);clear hK K;try simp only [Act.put,tq]
     clear hHeld;refine ry 1 (fun K hK=>?_);go_simp;refine hK.out _ _ (HSS.out _ ((B2.out.mono HWR.out).trans ((Below.refl _ _).alloc (Nat.le_trans HWR.out B2.out.size) _))) (fun hHeld=>?_);clear hK K;try simp only [Act.put,tq]
     clear hHeld;refine ry 9 (fun K hK=>?_);refine step_append_bx rfl (.tmp 16) (.tmp 23) rfl (w.heap.size+1+1+1) _ Y (by rfl) (⟨g1,nm1,t1,b1,nx1,.slice a2 m1 c2,.slice d2 n1 e2,L1,G1,wr.heap.size,w2.heap.size⟩:Y9) (HOZ.out.later B2.out) HOW.out HBW.out (fun j hj=>.inl (HOZ.out.row.lt j hj).2) (fun x hx=>.inl (HOZ.out.each x hx).1.top) (by rfl) HZL.out (Nat.le_trans HBW.out B2.out.size) ?_;intro v3 w3 hown3 hb3 _ _;obtain ⟨a3,c3,hv3⟩:=hown3.shape;simp only [List.length_append,List.length_cons,List.length_nil,Nat.zero_add] at hv3;subst hv3;have HO3:=hid hown3;have B3:=hid (show Below (w.heap.size+1+1+1) wr w3 from (B2.out.mono HBW.out).trans hb3);have x3:=(AX.out.later B2.out);have x4:Sx w3 (w.heap.size+1+1) 27 y tm vv (.slice ga gn gc):=(hb3.block (w.heap.size+1+1) (by omega)).trans x3;have k3:=x4.cells;have f3:=x4.loose;have X4:=hid x4;clear hown3 hb3 x3 x4;refine hK.out _ _ (HSS.out _ (B3.out.mono (by omega))) (fun hHeld=>?_);clear hK K;try simp only [Act.put,tq]
     refine tk 10 ?_;clear hHeld;refine ry 11 (fun K hK=>?_);go_simp;refine hK.out _ _ (HSS.out _ (B3.out.mono (by omega) |>.trans ((Below.refl _ _).setCell (p:=⟨w.heap.size+1+1,2,none⟩) (show w.heap.size+1≤w.heap.size+1+1 by omega) _))) (fun hHeld=>?_);clear hK K;try simp only [Act.put,tq]
     refine dn ?_
   all_goals
    have X5:=hid (X4.out.s2 (Value.slice a3 (Y.length+1) c3));have G5:w3.grownBy (w3.setCell ⟨w.heap.size+1+1,2,none⟩ (Value.slice a3 (Y.length+1) c3)) (some (w.heap.size+1+1)):=wst (wre _ _) _ _;have O5:=hid (HO3.out.grown G5 (by omega));have a5:Sx w3 w.heap.size 27 y tm (.slice (some ⟨k,o,none⟩) bn bc) (.slice ga gn gc):=(B3.out.block w.heap.size (by omega)).trans A6.out;have A5:=hid (a5.off G5 (by omega));have r5:Sx w3 (w.heap.size+1) 27 0 0 (.slice none 0 0) (.slice none 0 0):=(B3.out.block (w.heap.size+1) (by omega)).trans RX.out;have R5:=hid (r5.off G5 (by omega));have B5:Hid (Below w.heap.size w (w3.setCell ⟨w.heap.size+1+1,2,none⟩ (Value.slice a3 (Y.length+1) c3))):=(HB.out.trans (B3.out.mono (by omega))).trans (below_of_grown G5 (by omega) (by have h1:=HB.out.size;have h2:=B3.out.size;omega))
    have S5:Hid (w.heap.size+1+1+1≤(w3.setCell ⟨w.heap.size+1+1,2,none⟩ (Value.slice a3 (Y.length+1) c3)).heap.size):=by show _≤_;have h1:=HBW.out;have h2:=B3.out.size;have h3:=G5.size;omega
    obtain ⟨W5,hW5⟩:∃ W5,w3.setCell ⟨w.heap.size+1+1,2,none⟩ (Value.slice a3 (Y.length+1) c3)=W5:=⟨_,rfl⟩;rw [hW5] at X5 O5 A5 R5 B5 S5;simp only [hW5];clear hHeld G5 a5 r5 k3 f3 hW5 co o2 o3
    have HE:Hid ((Y++[(⟨g1,nm1,t1,b1,nx1,.slice a2 m1 c2,.slice d2 n1 e2,L1,G1,wr.heap.size,w2.heap.size⟩:Y9)]).map yd=S.take (i+1)):=by show _=_;rw [List.map_append,HZT.out,List.take_succ_eq_append_getElem hil,HQ.out];rfl
    go_wp2
    go_roundw
    case rel=>exact ⟨i+1,by omega,by go_num,_,_,HE.out,O5.out,X5.out,A5.out,R5.out,S5.out,B5.out⟩
    case measure=>simp [intOf];omega
  have HE:Hid (Y.map yd=S):=by show _=_;rw [HZT.out,List.take_of_length_le (by rw [HL.out];omega)]
  obtain ⟨i0,hi0,hz0,hz1,hz2⟩:=info_parts3 info_int;have hsv:=HOZ.out.shape;obtain ⟨va,vc,rfl⟩:=hsv
  cases ga with
  | none =>
   have hgz:gn=0:=by
    by_cases h:0<gn
    ·obtain ⟨_,_,h1,_⟩:=HIS.out.2 0 (by rw [HGL.out];exact h)
     cases h1
    omega
   subst hgz;obtain rfl:=HG0.out rfl;have hge:G=[]:=List.eq_nil_of_length_eq_zero HGL.out;subst hge;obtain ⟨w1,hw1⟩:∃ w1,wr.alloc (.cells #[] 3)=w1:=⟨_,rfl⟩
   have b1:Below wr.heap.size wr w1:=by subst hw1;exact bpush (bre _) _
   have own1:OwI w1 wr.heap.size (.slice (some ⟨wr.heap.size,0,none⟩) 0 0) []:=by subst hw1;exact ownI_empty wr _ (Nat.le_refl _)
   have x1:=AX.out.later b1;have r1:=RX.out.later b1;have k2:=x1.cells;have f2:=x1.loose;have k1:=r1.cells;have f1:=r1.loose;have X1:=hid x1;have R1:=hid r1;have B1:=hid b1;have O1:=hid own1;have ca:=(A6.out.later b1).cells;clear x1 r1 b1 own1 co
   go_wp2
   clear hw1;have k2:=X1.out.s3 (.slice ((some ⟨wr.heap.size,0,none⟩)) 0 0);have e1:w1.grownBy (w1.setCell ⟨w.heap.size+1+1,3,none⟩ (.slice ((some ⟨wr.heap.size,0,none⟩)) 0 0)) (some (w.heap.size+1+1)):=wst (wre _ _) _ _;have k1:=R1.out.off e1 (by omega);have e2:=put4_grown (w1.setCell ⟨w.heap.size+1+1,3,none⟩ (.slice ((some ⟨wr.heap.size,0,none⟩)) 0 0)) (w.heap.size+1) y tm (.slice va Y.length vc) (.slice ((some ⟨wr.heap.size,0,none⟩)) 0 0);have d1:=(k1.put4 y tm (.slice va Y.length vc) (.slice ((some ⟨wr.heap.size,0,none⟩)) 0 0)).cells;unfold put4 at d1 e2;have HD:Dj (.slice ((some ⟨wr.heap.size,0,none⟩)) 0 0) (.slice va Y.length vc):=Dj.later HOZ.out.row O1.out (Nat.le_refl _);have HEE:∀ z∈Y,∀ j,Value.ownBlock (.slice ((some ⟨wr.heap.size,0,none⟩)) 0 0)=some j→j<z.lo∨z.hi≤j:=fun z hz j hj=>.inr (Nat.le_trans (HOZ.out.each z hz).1.top (O1.out.lt j hj).1);have h1:=HBW.out;have h2:=HB.out.size;have h3:=B1.out.size;have h4:=e1.size;refine bodyPost_ret (v:=.agg #[.int .i64 y,.int .i64 tm,.slice va Y.length vc,.slice ((some ⟨wr.heap.size,0,none⟩)) 0 0]) (by simp [results,Tryz.results56,go_sem,d1]) rfl ⟨_,_,rfl,⟨Y,HE.out,?_,?_,HD,HEE⟩,?_⟩
   ·exact (((HOZ.out.later B1.out).grown e1 (by omega)).grown e2 (by omega)).base (by omega)
   ·exact own_base (OwI.grown (OwI.grown O1.out e1 (by omega)) e2 (by omega)) (by omega)
   exact (btr HB.out B1.out).trans ((below_of_grown e1 (by omega) (by omega)).trans (below_of_grown e2 (by omega) (by omega)))
  | some ad =>
   have HSRC:Hid (∀ j u,(G.map (Value.int .i64))[j]?=some u→(wr.alloc (.cells #[] 3)).cell? (ad.add j)=some u):=(HIS.out.later (btr HB.out (bpush (bre _) _))).all;have ca:=(A6.out.later (bpush (bre wr) (.cells #[] 3))).cells;clear co
   go_wp2_with (at_builtin;refine wpList_append_own _ rfl (.tmp 26) (.tmp 28) 25 rfl wr.heap.size 3 i0 _ 1 8 Tryz.underlying25 hi0 hz0 hz1 hz2 rfl (by decide) _ 0 [] (by rfl) (ownI_empty wr _ (Nat.le_refl _)) ad gn gc (G.map (Value.int .i64)) (by rfl) (by rw [List.length_map,HGL.out,Nat.mul_one]) HSRC.out (int_one G) (by have:=HGN.out;unfold maxLen;omega) (by have:=HGN.out;omega) (by simp) ?_;intro v1 w1 hown1 hg1 _;have own1:OwI w1 wr.heap.size v1 G:=(by simpa [OwI,HGL.out] using hown1);obtain ⟨ag,cg,hvg,_⟩:=own1.shape;rw [HGL.out] at hvg;subst hvg;have b1:Below wr.heap.size wr w1:=(bpush (bre wr) _).grown hg1 (by simp) (by intro k hk;simp [Value.ownBlock] at hk;omega);have x1:=AX.out.later b1;have r1:=RX.out.later b1;have k2:=x1.cells;have f2:=x1.loose;have k1:=r1.cells;have f1:=r1.loose;have X1:=hid x1;have R1:=hid r1;have B1:=hid b1;have O1:=hid own1;clear x1 r1 b1 own1 hown1 hg1)
   have k2:=X1.out.s3 (.slice (ag) gn cg);have e1:w1.grownBy (w1.setCell ⟨w.heap.size+1+1,3,none⟩ (.slice (ag) gn cg)) (some (w.heap.size+1+1)):=wst (wre _ _) _ _;have k1:=R1.out.off e1 (by omega);have e2:=put4_grown (w1.setCell ⟨w.heap.size+1+1,3,none⟩ (.slice (ag) gn cg)) (w.heap.size+1) y tm (.slice va Y.length vc) (.slice (ag) gn cg);have d1:=(k1.put4 y tm (.slice va Y.length vc) (.slice (ag) gn cg)).cells;unfold put4 at d1 e2;have HD:Dj (.slice (ag) gn cg) (.slice va Y.length vc):=Dj.later HOZ.out.row O1.out (Nat.le_refl _);have HEE:∀ z∈Y,∀ j,Value.ownBlock (.slice (ag) gn cg)=some j→j<z.lo∨z.hi≤j:=fun z hz j hj=>.inr (Nat.le_trans (HOZ.out.each z hz).1.top (O1.out.lt j hj).1);have h1:=HBW.out;have h2:=HB.out.size;have h3:=B1.out.size;have h4:=e1.size;refine bodyPost_ret (v:=.agg #[.int .i64 y,.int .i64 tm,.slice va Y.length vc,.slice (ag) gn cg]) (by simp [results,Tryz.results56,go_sem,d1]) rfl ⟨_,_,rfl,⟨Y,HE.out,?_,?_,HD,HEE⟩,?_⟩
   ·exact (((HOZ.out.later B1.out).grown e1 (by omega)).grown e2 (by omega)).base (by omega)
   ·exact own_base (OwI.grown (OwI.grown O1.out e1 (by omega)) e2 (by omega)) (by omega)
   exact (btr HB.out B1.out).trans ((below_of_grown e1 (by omega) (by omega)).trans (below_of_grown e2 (by omega) (by omega)))
end Go.Proofs.YtdkedgedkgabnaaGreatDoor
