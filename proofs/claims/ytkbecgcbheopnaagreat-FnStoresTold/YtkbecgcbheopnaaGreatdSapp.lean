/- Skn, Stm, Sso, Sapp. -/

import Derived.Test.YtkbecgcbheopnaaGreatdMj
namespace Go.Proofs.YtkbecgcbheopnaaGreat
open Go.RowKit Go.ChangeMaps
def hasG (x:Int) (b:X7):Bool:=b.2.2.2.2.2.1.any (fun m=>decide (m.1=x)) || inl x b.2.2.2.2.2.2
def kno (x:Int) (S:List X7) (G:List Int):Bool:=S.any (isG x) || (inl x G || S.any (hasG x))
theorem any_drop {α:Type} {p:α→Bool} {S:List α} {i:Nat} (h:i<S.length) (hp:p S[i]=false):(S.drop i).any p=(S.drop (i+1)).any p:=by
 rw [List.drop_eq_getElem_cons h,List.any_cons,hp,Bool.false_or]
theorem any_here {α:Type} {p:α→Bool} {S:List α} {i:Nat} (h:i<S.length) (hp:p S[i]=true):S.any p=true:=List.any_eq_true.2 ⟨S[i],List.getElem_mem h,hp⟩
set_option maxHeartbeats 1600000 in
set_option maxRecDepth 100000 in
theorem specKnows_any (lo hi lo' hi':Nat) (y tm:Int) (ba:Option Addr) (bn bc:Nat) (ga:Option Addr) (gn gc:Nat) (S:List X7) (G:List Int) (x:Int) (w:World) (hl:S.length=bn) (hn:bn≤1048576) (hsb:Sb S) (hm:Bs lo hi w ba S) (hgl:G.length=gn) (hgn:gn≤1048576) (hs:Is lo' hi' w ga G) :
  Calls Tryz.prog 69 #[.agg #[.int .i64 y,.int .i64 tm,.slice ba bn bc,.slice ga gn gc],.int .i64 x] w fun e w'=>e=.returned (.bool (kno x S G))∧Below w.heap.size w w':=by
 obtain ⟨W0,hW0⟩:∃ W0,w.alloc (.cells #[.int .i64 y,.int .i64 tm,.slice ba bn bc,.slice ga gn gc] 27)=W0:=⟨_,rfl⟩
 have a0:Sx W0 w.heap.size 27 y tm (.slice ba bn bc) (.slice ga gn gc):=by subst hW0;exact Sx.new w _ y tm _ _
 have b0:Below w.heap.size w W0:=by subst hW0;exact bpush (bre _) _
 obtain ⟨p1,hp1⟩:∃ p1,S.any (isG x)=p1:=⟨_,rfl⟩
 obtain ⟨z1,hz1⟩:∃ z1,fidx (isG x) S 0=z1:=⟨_,rfl⟩
 have hpz:decide (0≤z1)=p1:=by rw [← hz1,fidx_any,hp1]
 obtain ⟨p2,hp2⟩:∃ p2,inl x G=p2:=⟨_,rfl⟩
 have c0:=a0.cells
 have A0:=hid a0
 have B0:=hid b0
 have HM:=hid hm
 have HS:=hid hs
 have HL:=hid hl
 have HSB:=hid hsb
 have HGL:=hid hgl
 have HZ1:=hid hz1
 have HP1:=hid hp1
 have HP2:=hid hp2
 have HN:=hid hn
 have HGN:=hid hgn
 clear a0 b0 hm hs hl hsb hgl hz1 hp1 hp2 hgn
 go_enter Tryz.func69,Tryz.ntmps69
 go_wp2_with fail
 clear hW0
 refine (specBoxAt_any lo hi y tm ba bn bc (.slice ga gn gc) S x _ HL.out HN.out (HM.out.later B0.out)).mono ?_;rintro e w1 ⟨rfl,hb1⟩
 rw [HZ1.out]
 have A1:=hid (A0.out.later hb1)
 have B1:=hid (btr B0.out hb1)
 clear hb1 A0 B0 c0
 cases p1
 ·have hz:¬ 0≤z1:=by simpa using hpz
  have c0:=A1.out.cells
  go_wp2_with fail
  refine (l06In_any lo' hi' ga gn gc G x _ HGL.out HGN.out (HS.out.later B1.out)).mono ?_;rintro e w2 ⟨rfl,hw2⟩
  subst hw2
  rw [HP2.out]
  cases p2
  ·go_wp2
   clear c0 hz hpz
   go_loopw [5] (fun iv wr=>∃ i:Nat,i≤bn∧iv=.int .i64 (i:Int)∧Hid (S.any (hasG x)=(S.drop i).any (hasG x))∧Below w2.heap.size w2 wr) (fun iv _=>bn - (intOf iv).toNat)
   case atStart=>exact ⟨0,Nat.zero_le _,rfl,rfl,bre _⟩
   case round =>
    obtain ⟨i,hi2,rfl,HQ,hb⟩:=hrel
    have HBE:=hid hb
    have A2:=hid (A1.out.later hb)
    have c0:=A2.out.cells
    have hbn:=HN.out
    clear hb
    by_cases hlt:i<bn
    ·have hil:i<S.length:=by rw [HL.out];exact hlt
     obtain ⟨k,o,ma,mc,ga1,gc1,rfl,hk,d,hms,his,_⟩:=(HM.out.later (btr B1.out HBE.out)).at hil
     have hmem:=HSB.out S[i] (List.getElem_mem hil)
     obtain ⟨q,hq⟩:∃ q,S[i]=q:=⟨_,rfl⟩
     obtain ⟨g1,nm1,t1,b1,nx1,L1,G1⟩:=q
     rw [hq] at d hms his hmem
     dsimp only at d hms his hmem
     obtain ⟨m1,hm1⟩:∃ m1,L1.length=m1:=⟨_,rfl⟩
     obtain ⟨n1,hn1⟩:∃ n1,G1.length=n1:=⟨_,rfl⟩
     rw [hm1,hn1] at d hmem
     have HD:=hid d
     have HK:=hid hk
     have HMS:=hid hms
     have HIS:=hid his
     have HM1:=hid hm1
     have HN1:=hid hn1
     have HML:=hid hmem.2.1
     have HNL:=hid hmem.2.2.2
     obtain ⟨q1,hq1⟩:∃ q1,L1.any (fun m=>decide (m.1=x))=q1:=⟨_,rfl⟩
     obtain ⟨q2,hq2⟩:∃ q2,inl x G1=q2:=⟨_,rfl⟩
     obtain ⟨z2,hz2⟩:∃ z2,mat x L1 0=z2:=⟨_,rfl⟩
     have hqz:decide (0≤z2)=q1:=by rw [← hz2,mat_any,hq1]
     have HH:Hid (hasG x S[i]=(q1 || q2)):=by show _=_;rw [hq,hasG,← hq1,← hq2]
     have HZ2:=hid hz2
     have HQ2:=hid hq2
     have hI:(0:Int)≤(i:Int)∧(i:Int)<(bn:Int):=by omega
     have d0:=d
     unfold C7 at d0
     clear hq hms his hmem hm1 hn1 hq1 hq2 hz2 d hk
     go_wp2_with fail
     refine (specMailAt_any _ _ g1 nm1 t1 b1 nx1 ma m1 mc (.slice ga1 n1 gc1) L1 x _ HM1.out HML.out HMS.out).mono ?_;rintro e w3 ⟨rfl,hb3⟩
     rw [HZ2.out]
     have A3:=hid (A2.out.later hb3)
     have HB3:=hid (btr HBE.out hb3)
     have d3:=HD.out.later HK.out hb3
     have HIS3:=hid (HIS.out.later hb3)
     unfold C7 at d3
     clear hb3 c0 d0
     cases q1
     ·have hz:¬ 0≤z2:=by simpa using hqz
      have c0:=A3.out.cells
      go_wp2_with fail
      refine (l06In_any _ _ ga1 n1 gc1 G1 x _ HN1.out HNL.out HIS3.out).mono ?_;rintro e w4 ⟨rfl,hw4⟩
      subst hw4
      rw [HQ2.out]
      cases q2
      ·have HE:Hid (S.any (hasG x)=(S.drop (i+1)).any (hasG x)):=by show _=_;rw [HQ.out];exact any_drop hil (by rw [HH.out];rfl)
       clear c0 d3 hz hqz
       go_wp2
       go_roundw
       case rel=>exact ⟨i+1,by omega,by go_num,HE,HB3.out⟩
       case measure=>simp [intOf];omega
      ·have HE:Hid (kno x S G=true):=by show _=_;rw [kno,any_here (p:=hasG x) hil (by rw [HH.out];rfl)];simp
       go_wp2
       go_ret
       exact ⟨by rw [HE.out];rfl,btr B1.out HB3.out⟩
     ·have hz:0≤z2:=by simpa using hqz
      have HE:Hid (kno x S G=true):=by show _=_;rw [kno,any_here (p:=hasG x) hil (by rw [HH.out];rfl)];simp
      have c0:=A3.out.cells
      go_wp2
      go_ret
      exact ⟨by rw [HE.out];rfl,btr B1.out HB3.out⟩
    ·have HE:Hid (kno x S G=false):=by
      show _=_
      rw [kno,HP1.out,HP2.out,HQ.out,List.drop_of_length_le (by rw [HL.out];omega)]
      rfl
     go_wp2
     go_ret
     exact ⟨by rw [HE.out];rfl,btr B1.out HBE.out⟩
  ·have HE:Hid (kno x S G=true):=by show _=_;rw [kno,HP2.out];simp
   go_wp2
   go_ret
   exact ⟨by rw [HE.out];rfl,B1.out⟩
 ·have hz:0≤z1:=by simpa using hpz
  have HE:Hid (kno x S G=true):=by show _=_;rw [kno,HP1.out];simp
  have c0:=A1.out.cells
  go_wp2
  go_ret
  exact ⟨by rw [HE.out];rfl,B1.out⟩
def tmF (tm:Int) (l:List R3):Bool:=l.all (fun p=>decide (p.2.1≤tm))
def tmOk (tm t:Int) (L:List M4):Bool:=decide (t≤tm)&&L.all (fun m=>tmF tm m.2.2.1)
theorem all_next {α:Type} {p:α→Bool} {S:List α} {i:Nat} (h:i<S.length) (ha:(S.take i).all p=true) (hp:p S[i]=true):(S.take (i+1)).all p=true:=by
 rw [List.take_succ_eq_append_getElem h,List.all_append,ha,Bool.true_and]
 simp [hp]
theorem all_no {α:Type} {p:α→Bool} {S:List α} {i:Nat} (h:i<S.length) (hp:p S[i]=false):S.all p=false:=by
 rw [List.all_eq_false]
 exact ⟨S[i],List.getElem_mem h,by simp [hp]⟩
set_option maxHeartbeats 1600000 in
set_option maxRecDepth 100000 in
theorem l07Times_any (lo hi:Nat) (g:Int) (nm:ByteArray) (t b nx:Int) (ma:Option Addr) (mn mc:Nat) (gv:Value) (L:List M4) (tm:Int) (w:World) (hl:L.length=mn) (hn:mn≤1048576) (hsm:Sm L) (hm:Ms lo hi w ma L) :
  Calls Tryz.prog 92 #[.agg #[.int .i64 g,.string nm,.int .i64 t,.int .i64 b,.int .i64 nx,.slice ma mn mc,gv],.int .i64 tm] w fun e w'=>e=.returned (.bool (tmOk tm t L))∧Below w.heap.size w w':=by
 obtain ⟨W0,hW0⟩:∃ W0,w.alloc (.cells #[.int .i64 g,.string nm,.int .i64 t,.int .i64 b,.int .i64 nx,.slice ma mn mc,gv] 37)=W0:=⟨_,rfl⟩
 have a0:Bx W0 w.heap.size 37 g nm t b nx (.slice ma mn mc) gv:=by subst hW0;exact Bx.new w _ g nm t b nx _ _
 have b0:Below w.heap.size w W0:=by subst hW0;exact bpush (bre _) _
 have c0:=a0.cells
 have HR:=hid (hm.later b0)
 have B0:=hid b0
 have HL:=hid hl
 have HSM:=hid hsm
 clear a0 b0 hm hl hsm
 by_cases ht:tm<t
 ·have HE:Hid (tmOk tm t L=false):=by show _=_;rw [tmOk,show decide (t≤tm)=false from by simp;omega];rfl
  go_enter Tryz.func92,Tryz.ntmps92
  go_wp2
  go_ret
  exact ⟨by rw [HE.out];rfl,B0.out⟩
 have HT:Hid (decide (t≤tm)=true):=by show _=_;simp;omega
 go_enter Tryz.func92,Tryz.ntmps92
 go_wp2
 clear hW0
 go_loopw [5] (fun iv wr=>∃ (i:Nat),i≤mn∧iv=.int .i64 (i:Int)∧Hid ((L.take i).all (fun m=>tmF tm m.2.2.1)=true)∧wr=W0) (fun iv _=>mn - (intOf iv).toNat)
 case atStart=>exact ⟨0,Nat.zero_le _,rfl,rfl,rfl⟩
 case round =>
  obtain ⟨i,hi,rfl,HQ,hw⟩:=hrel
  subst hw
  by_cases hlt:i<mn
  ·have hil:i<L.length:=by rw [HL.out];exact hlt
   obtain ⟨k,o,fa,fc,rfl,hk,c,hrs,_⟩:=HR.out.at hil
   have hmem:=HSM.out L[i] (List.getElem_mem hil)
   obtain ⟨l,hlq⟩:∃ l,L[i].2.2.1=l:=⟨_,rfl⟩
   rw [hlq] at c hrs hmem
   obtain ⟨m,hm⟩:∃ m,l.length=m:=⟨_,rfl⟩
   rw [hm] at c hmem
   have hml:m≤1048576:=hmem.1
   have HLQ:=hid hlq
   have HM:=hid hm
   have HRS:=hid hrs
   have c2:=c.2.2.1
   have hI:(0:Int)≤(i:Int)∧(i:Int)<(mn:Int):=by omega
   clear hlq hm hrs hmem c
   go_wp2
   go_loopw [6] (fun jv wr2=>∃ (j:Nat),j≤m∧jv=.int .i64 (j:Int)∧Hid (tmF tm (l.take j)=true)∧wr2=wr) (fun jv _=>m - (intOf jv).toNat)
   case atStart=>exact ⟨0,Nat.zero_le _,rfl,rfl,rfl⟩
   case round =>
    obtain ⟨j,hj,rfl,HQ2,hw2⟩:=hrel
    subst hw2
    by_cases hjt:j<m
    ·have hjl:j<l.length:=by rw [HM.out];exact hjt
     obtain ⟨kf,of,rfl,hkf,hrow⟩:=HRS.out (by omega)
     have e:=(hrow j hjl).2.1
     obtain ⟨z,hz⟩:∃ z,l[j].2.1=z:=⟨_,rfl⟩
     rw [hz] at e
     have hJ:(0:Int)≤(j:Int)∧(j:Int)<(m:Int):=by omega
     by_cases hzt:tm<z
     ·have HE:Hid (tmOk tm t L=false):=by
       show _=_
       have h1:tmF tm l=false:=all_no hjl (by rw [hz];simp;omega)
       rw [tmOk,all_no hil (by rw [HLQ.out];exact h1),Bool.and_false]
      clear hz hrow
      go_wp2
      go_ret
      exact ⟨by rw [HE.out];rfl,B0.out⟩
     ·have HE:Hid (tmF tm (l.take (j+1))=true):=all_next hjl HQ2.out (by rw [hz];simp;omega)
      clear hz hrow
      go_wp2
      go_roundw
      case rel=>exact ⟨j+1,by omega,by go_num,HE,by first | rfl | trivial⟩
      case measure=>simp [intOf];omega
    ·have HE:Hid ((L.take (i+1)).all (fun m=>tmF tm m.2.2.1)=true):=by
      have h1:=HQ2.out
      rw [List.take_of_length_le (by rw [HM.out];omega)] at h1
      exact all_next hil HQ.out (by rw [HLQ.out];exact h1)
     go_wp2
     go_roundw
     case rel=>exact ⟨i+1,by omega,by go_num,HE,by first | rfl | trivial⟩
     case measure=>simp [intOf];omega
  ·have HE:Hid (tmOk tm t L=true):=by
    show _=_
    have h1:=HQ.out
    rw [List.take_of_length_le (by rw [HL.out];omega)] at h1
    rw [tmOk,HT.out,h1]
    rfl
   go_wp2
   go_ret
   exact ⟨by rw [HE.out];rfl,B0.out⟩
end Go.Proofs.YtkbecgcbheopnaaGreat
namespace Go.Proofs.YtkbecgcbheopnaaGreat
open Go.RowKit
def gnM (mo:Int) (G:List Int):Bool:=asc 0 G&&decide ((G.length:Int)≤mo)
theorem gnM_bad {mo:Int} {G:List Int} (h:asc 0 G=false):gnM mo G=false:=by rw [gnM,h];rfl
theorem gnM_fin {mo:Int} {G:List Int} (h:asc 0 G=true):gnM mo G=decide ((G.length:Int)≤mo):=by rw [gnM,h];rfl
set_option maxHeartbeats 4000000 in
set_option maxRecDepth 100000 in
theorem l06SortedM_any (mo:Int) (lo hi:Nat) (ao:Option Addr) (n cap:Nat) (G:List Int) (w:World) (hl:G.length=n) (hn:n≤1048576) (hr:Is lo hi w ao G) :
  Calls Tryz.prog 89 #[.slice ao n cap,.int .i64 mo] w fun e w'=>e=.returned (.bool (gnM mo G))∧Below w.heap.size w w':=by
 have HR:=hid hr
 have HL:=hid hl
 clear hr hl
 go_enter Tryz.func89,Tryz.ntmps89
 go_wp2
 go_loopw [5] (fun iv wr=>∃ (i:Nat),i≤n∧iv=.int .i64 (i:Int)∧Hid (asc 0 (G.take i)=true)∧Below w.heap.size w wr) (fun iv _=>n - (intOf iv).toNat)
 case atStart=>exact ⟨0,Nat.zero_le _,rfl,rfl,bre _⟩
 case round =>
  obtain ⟨i,hi,rfl,HA,hb⟩:=hrel
  have HB:=hid hb
  by_cases hlt:i<n
  ·have hil:i<G.length:=by rw [HL.out];exact hlt
   obtain ⟨k,o,rfl,hk,c⟩:=(HR.out.later hb).at hil
   have hst:=asc_take hil
   have hbad:=asc_bad hil
   obtain ⟨x,hx⟩:∃ x,G[i]=x:=⟨_,rfl⟩
   rw [hx] at c hst hbad
   obtain ⟨p,hp,cp⟩:=in_l x
   rw [← hp.out] at hst hbad
   have hI:(0:Int)≤(i:Int)∧(i:Int)<(n:Int):=by omega
   by_cases h0:i=0
   ·have HP:=hid (fun h:p=true=>gok_pos (hp.out ▸ h))
    have hl0:lst 0 (G.take i)=0:=by rw [h0];rfl
    rw [hl0] at hst hbad
    have HST:=hid hst
    have HBD:=hid hbad
    have HS:Hid (∀ W,Below wr.heap.size wr W→W.cell? ⟨k,o+i,none⟩=some (.int .i64 x)):=fun W h=>(h.cell (p:=⟨k,_,none⟩) hk).trans c
    have hpos:¬ (0:Int)<(i:Int):=by omega
    have hposN:¬ 0<i:=by omega
    clear hst hbad hb c hx h0 hl0
    go_wp2_with fail
    refine wp_region_noPanic ?_
    refine wp_region_held_drew (S:=(fun W=>W.cell? ⟨k,o+i,none⟩=some (.int .i64 x))) (by kernel_rfl) (HS.out _ (bdr (bre _))) (fun hHeld=>?_)
    refine tk 0 ?_
    refine tk 1 ?_
    refine tk 2 ?_
    refine tk 3 ?_
    clear hHeld
    refine ry 4 (fun K hK=>?_)
    go_simp
    refine (cp.out _).mono ?_;rintro e w1 ⟨rfl,h1⟩
    subst h1
    go_wp2_with fail
    refine hK.out _ _ (HS.out _ bb) (fun hHeld=>?_)
    clear hK K
    try simp only [Act.put,tp2,tp3,tp4]
    cases p
    ·refine tk 5 ?_
     refine tk 6 ?_
     refine tn 7 ?_
     refine tn 8 ?_
     refine tn 9 ?_
     refine tn 10 ?_
     refine tn 11 ?_
     refine tn 12 ?_
     refine tn 13 ?_
     refine tn 14 ?_
     refine tn 15 ?_
     refine tn 16 ?_
     refine tn 17 ?_
     refine tn 18 ?_
     refine tn 19 ?_
     refine tn 20 ?_
     refine tk 21 ?_
     refine wpAnyH_done (by kernel_rfl) ?_ _
     refine NoPanic.normal ?_
     have HE:Hid (gnM mo G=false):=gnM_bad (HBD.out (by simp))
     clear hHeld
     go_wp2
     go_ret
     exact ⟨by rw [HE.out];rfl,btr HB.out bb⟩
    ·refine tk 5 ?_
     refine tk 6 ?_
     refine tk 7 ?_
     ·refine tk 8 ?_
      refine tk 9 ?_
      refine tn 10 ?_
      refine tn 11 ?_
      refine tn 12 ?_
      refine tn 13 ?_
      refine tn 14 ?_
      refine tn 15 ?_
      refine tn 16 ?_
      refine tn 17 ?_
      refine tn 18 ?_
      refine tn 19 ?_
      refine tk 20 ?_
      refine tk 21 ?_
      refine wpAnyH_done (by kernel_rfl) ?_ _
      refine NoPanic.normal ?_
      have HE:Hid (asc 0 (G.take (i+1))=true):=by show _=_;rw [HST.out,HA.out];simp [HP.out rfl]
      clear hHeld
      go_wp2
      go_roundw
      case rel=>exact ⟨i+1,by omega,by go_num,HE,btr HB.out bb⟩
      case measure=>simp [intOf];omega
   ·obtain ⟨j,hj⟩:∃ j:Nat,i=j+1:=⟨i - 1,by omega⟩
    have hjl:j<G.length:=by omega
    obtain ⟨k',o',e',hk',c'⟩:=(HR.out.later hb).at hjl
    simp only [Option.some.injEq,Addr.mk.injEq,and_true] at e'
    obtain ⟨rfl,rfl⟩:=e'
    obtain ⟨y,hy⟩:∃ y,G[j]=y:=⟨_,rfl⟩
    have hly:lst 0 (G.take i)=y:=by rw [hj,lst_take hjl,hy]
    rw [hy] at c'
    rw [hly] at hst hbad
    have hij:(i:Int) - 1=(j:Int):=by omega
    have hwj:IntKind.i64.wrap (j:Int)=(j:Int):=by rw [IntKind.wrap_i64];omega
    have hJ:(0:Int)≤(j:Int)∧(j:Int)<(n:Int):=by omega
    have hpos:(0:Int)<(i:Int):=by omega
    have hposN:0<i:=by omega
    have HST:=hid hst
    have HBD:=hid hbad
    have HS:Hid (∀ W,Below wr.heap.size wr W→W.cell? ⟨k,o+i,none⟩=some (.int .i64 x)∧W.cell? ⟨k,o+j,none⟩=some (.int .i64 y)):=fun W h=>⟨(h.cell (p:=⟨k,_,none⟩) hk).trans c,(h.cell (p:=⟨k,_,none⟩) hk).trans c'⟩
    clear hst hbad hb c c' hx hy hly hj
    go_wp2_with fail
    refine wp_region_noPanic ?_
    refine wp_region_held_drew (S:=(fun W=>W.cell? ⟨k,o+i,none⟩=some (.int .i64 x)∧W.cell? ⟨k,o+j,none⟩=some (.int .i64 y))) (by kernel_rfl) (HS.out _ (bdr (bre _))) (fun hHeld=>?_)
    refine tk 0 ?_
    refine tk 1 ?_
    refine tk 2 ?_
    refine tk 3 ?_
    clear hHeld
    refine ry 4 (fun K hK=>?_)
    go_simp
    refine (cp.out _).mono ?_;rintro e w1 ⟨rfl,h1⟩
    subst h1
    go_wp2_with fail
    refine hK.out _ _ (HS.out _ bb) (fun hHeld=>?_)
    clear hK K
    try simp only [Act.put,tp2,tp3,tp4]
    cases p
    ·refine tk 5 ?_
     refine tk 6 ?_
     refine tn 7 ?_
     refine tn 8 ?_
     refine tn 9 ?_
     refine tn 10 ?_
     refine tn 11 ?_
     refine tn 12 ?_
     refine tn 13 ?_
     refine tn 14 ?_
     refine tn 15 ?_
     refine tn 16 ?_
     refine tn 17 ?_
     refine tn 18 ?_
     refine tn 19 ?_
     refine tn 20 ?_
     refine tk 21 ?_
     refine wpAnyH_done (by kernel_rfl) ?_ _
     refine NoPanic.normal ?_
     have HE:Hid (gnM mo G=false):=gnM_bad (HBD.out (by simp))
     clear hHeld
     go_wp2
     go_ret
     exact ⟨by rw [HE.out];rfl,btr HB.out bb⟩
    ·refine tk 5 ?_
     refine tk 6 ?_
     refine tk 7 ?_
     ·refine tk 8 ?_
      refine tk 9 ?_
      refine tk 10 ?_
      refine tk 11 ?_
      refine tk 12 ?_
      refine tk 13 ?_
      refine tk 14 ?_
      refine tk 15 ?_
      refine tk 16 ?_
      refine tk 17 ?_
      refine tk 18 ?_
      by_cases hle:y<x
      ·refine tk 19 ?_
       refine tk 20 ?_
       refine tk 21 ?_
       refine wpAnyH_done (by kernel_rfl) ?_ _
       refine NoPanic.normal ?_
       have HE:Hid (asc 0 (G.take (i+1))=true):=by show _=_;rw [HST.out,HA.out];simp [hle]
       clear hHeld
       go_wp2
       go_roundw
       case rel=>exact ⟨i+1,by omega,by go_num,HE,btr HB.out bb⟩
       case measure=>simp [intOf];omega
      ·refine tk 19 ?_
       refine tk 20 ?_
       refine tk 21 ?_
       refine wpAnyH_done (by kernel_rfl) ?_ _
       refine NoPanic.normal ?_
       have HE:Hid (gnM mo G=false):=gnM_bad (HBD.out (by simp [hle]))
       clear hHeld
       go_wp2
       go_ret
       exact ⟨by rw [HE.out];rfl,btr HB.out bb⟩
  ·have HE:Hid (gnM mo G=decide ((n:Int)≤mo)):=by
    show _=_
    have:=HA.out
    rw [List.take_of_length_le (by rw [HL.out];omega)] at this
    rw [gnM_fin this,HL.out]
   go_wp2
   go_ret
   exact ⟨by rw [HE.out];rfl,HB.out⟩
end Go.Proofs.YtkbecgcbheopnaaGreat
namespace Go.Proofs.YtkbecgcbheopnaaGreat
open Go.RowKit Go.ChangeMaps
theorem yc_one {y:Y9} (h1:∃ a k c,y.mv=.slice a k c) (h2:∃ a k c,y.gv=.slice a k c):∀ u∈yc [y],u.oneCell'=true:=by
 obtain ⟨a,k,c,e1⟩:=h1
 obtain ⟨a',k',c',e2⟩:=h2
 intro u hu
 simp only [yc,List.mem_cons,List.not_mem_nil,or_false] at hu
 rcases hu with rfl | rfl | rfl | rfl | rfl | rfl | rfl
 ·rfl
 ·rfl
 ·rfl
 ·rfl
 ·rfl
 ·rw [e1];rfl
 ·rw [e2];rfl
theorem OwX.slices {W:World} {lo hi:Nat} {mv gv:Value} {L:List M4} {G:List Int} (h:OwX W lo hi mv gv L G):(∃ a k c,mv=.slice a k c)∧∃ a k c,gv=.slice a k c:=by
 obtain ⟨a,c,a',c',h1,h2,_⟩:=h.reads
 exact ⟨⟨_,_,_,h1⟩,⟨_,_,_,h2⟩⟩
theorem step_append_bx {ops:Array Oper} {o:Oper} {a:Act} {w:World} {K:Act→World→Prop} {Q:Exit→Act→World→Prop} {E:Prop}
  (hg:o.guard=none) (s x:Operand) (hop:o.op=Op.call { callee:=Callee.builtin Builtin.append,args:=#[s,x],argTypes:=#[24,24] })
  (B:Nat) (v:Value) (Y:List Y9) (hs:a.eval s=v) (y:Y9) (hown:OwS w B v Y) (ho:OwX w y.lo y.hi y.mv y.gv y.L y.G) (hB:B≤y.lo) (hv:∀ j,v.ownBlock=some j→j<y.lo∨y.hi≤j) (hd:∀ x∈Y,x.hi≤y.lo∨y.hi≤x.lo)
  (hx:a.eval x=.slice (some ⟨w.heap.size,0,none⟩) 1 1) (hlen:Y.length≤1048576) (hBw:B≤w.heap.size)
  (hK:∀ v' w',OwS w' B v' (Y++[y])→Below B w w'→(w.alloc (.cells #[.int .i64 y.g,.string y.nm,.int .i64 y.t,.int .i64 y.b,.int .i64 y.nx,y.mv,y.gv] 37)).grownBy w' v.ownBlock→(∀ j,v'.ownBlock=some j→v.ownBlock=some j∨w.heap.size<j)→K (a.put o.dst v') w') :
  if Region.wanted o (yielded ops a.tmps)=true then Oper.wp Tryz.prog o a (w.alloc (.cells #[.int .i64 y.g,.string y.nm,.int .i64 y.t,.int .i64 y.b,.int .i64 y.nx,y.mv,y.gv] 37)) K Q else E:=by
 have hw:Region.wanted o (yielded ops a.tmps)=true:=by simp [Region.wanted,hg]
 rw [if_pos hw]
 obtain ⟨i0,hi,hz0,hz1,hz2⟩:=info_parts3 info_bx
 obtain ⟨v',w',hr,h2,h3,h4,h5⟩:=run_append_own_at (P:=Tryz.prog) (w.alloc (.cells #[.int .i64 y.g,.string y.nm,.int .i64 y.t,.int .i64 y.b,.int .i64 y.nx,y.mv,y.gv] 37)) B 24 o.type 37 i0 _ 7 96 Tryz.underlying24 hi hz0 hz1 hz2 rfl (by decide) v _ _ (hown.row.alloc _) ⟨w.heap.size,0,none⟩ 1 1 (yc [y]) rfl (cells_new7 w y 37) (yc_one ho.slices.1 ho.slices.2) (by unfold maxLen;omega) (by omega) (by simp;omega)
 unfold Oper.wp execOp
 simp only [hop,resolve,invoke,builtin,Sem.run_bind,Sem.run_pure,Result.andThen_ok,List.map_toArray,List.map_cons,List.map_nil,hs,hx,hr]
 have hloc:∀ j,v'.ownBlock=some j→v.ownBlock=some j∨w.heap.size<j:=fun j hj=>by
  rcases h5 with h5 | h5
  ·exact .inl (by rw [← h5];exact hj)
  ·rw [h5] at hj;simp at hj;exact .inr (by omega)
 exact hK v' w' (hown.snoc y ho hB hv hd _ (by rw [yc_app];simpa using h2) h3 hloc) (((Below.refl B w).alloc hBw _).grown h3 (by simp;omega) (fun k hk=>(hown.row.lt k hk).1)) h3 hloc
theorem wpList_append_bx {ops:Array Oper} {rest:List Oper} {o:Oper} {a:Act} {w:World} {Q:Exit→Act→World→Prop} (hgd:o.guard=none) (s x:Operand)
  (hop:o.op=.call { callee:=.builtin .append,args:=#[s,x],argTypes:=#[24,24] })
  (B:Nat) (v:Value) (Y:List Y9) (hs:a.eval s=v) (y:Y9) (hown:OwS w B v Y) (ho:OwX w y.lo y.hi y.mv y.gv y.L y.G) (hB:B≤y.lo) (hv:∀ j,v.ownBlock=some j→j<y.lo∨y.hi≤j) (hd:∀ x∈Y,x.hi≤y.lo∨y.hi≤x.lo)
  (hx:a.eval x=.slice (some ⟨w.heap.size,0,none⟩) 1 1) (hlen:Y.length≤1048576) (hBw:B≤w.heap.size)
  (hK:∀ v' w',OwS w' B v' (Y++[y])→Below B w w'→(w.alloc (.cells #[.int .i64 y.g,.string y.nm,.int .i64 y.t,.int .i64 y.b,.int .i64 y.nx,y.mv,y.gv] 37)).grownBy w' v.ownBlock→(∀ j,v'.ownBlock=some j→v.ownBlock=some j∨w.heap.size<j)→wpList Tryz.prog ops Q rest (a.put o.dst v') w') :
  wpList Tryz.prog ops Q (o::rest) a (w.alloc (.cells #[.int .i64 y.g,.string y.nm,.int .i64 y.t,.int .i64 y.b,.int .i64 y.nx,y.mv,y.gv] 37)):=by
 obtain ⟨i0,hi,hz0,hz1,hz2⟩:=info_parts3 info_bx
 refine wpList_append_own_at _ hgd s x 24 hop B 37 i0 _ 7 96 Tryz.underlying24 hi hz0 hz1 hz2 rfl (by decide) v _ _ hs (hown.row.alloc _) ⟨w.heap.size,0,none⟩ 1 1 (yc [y]) hx rfl (cells_new7 w y 37) (yc_one ho.slices.1 ho.slices.2) (by unfold maxLen;omega) (by omega) (by simp;omega) ?_
 intro v' w' h2 h3 h4 h5
 have hloc:∀ j,v'.ownBlock=some j→v.ownBlock=some j∨w.heap.size<j:=fun j hj=>by
  rcases h5 with h5 | h5
  ·exact .inl (by rw [← h5];exact hj)
  ·rw [h5] at hj;simp at hj;exact .inr (by omega)
 exact hK v' w' (hown.snoc y ho hB hv hd _ (by rw [yc_app];simpa using h2) h3 hloc) (((Below.refl B w).alloc hBw _).grown h3 (by simp;omega) (fun k hk=>(hown.row.lt k hk).1)) h3 hloc
theorem three_stores (w:World) (ta tb tc:Nat) (y tm y1 tm1 y2 tm2:Int) (bv gv bv1 gv1 bv2 gv2:Value) (W0:World)
  (h:(((w.alloc (.cells #[.int .i64 y,.int .i64 tm,bv,gv] ta)).alloc (.cells #[.int .i64 y1,.int .i64 tm1,bv1,gv1] tb)).alloc (.cells #[.int .i64 y2,.int .i64 tm2,bv2,gv2] tc))=W0) :
  Sx W0 w.heap.size ta y tm bv gv∧Sx W0 (w.heap.size+1) tb y1 tm1 bv1 gv1∧Sx W0 (w.heap.size+1+1) tc y2 tm2 bv2 gv2∧Below w.heap.size w W0∧W0.heap.size=w.heap.size+1+1+1:=by
 have e1:(w.alloc (.cells #[.int .i64 y,.int .i64 tm,bv,gv] ta)).heap.size=w.heap.size+1:=by simp
 have e2:((w.alloc (.cells #[.int .i64 y,.int .i64 tm,bv,gv] ta)).alloc (.cells #[.int .i64 y1,.int .i64 tm1,bv1,gv1] tb)).heap.size=w.heap.size+1+1:=by simp
 have h1:=Sx.new (w.alloc (.cells #[.int .i64 y,.int .i64 tm,bv,gv] ta)) tb y1 tm1 bv1 gv1
 have h2:=Sx.new ((w.alloc (.cells #[.int .i64 y,.int .i64 tm,bv,gv] ta)).alloc (.cells #[.int .i64 y1,.int .i64 tm1,bv1,gv1] tb)) tc y2 tm2 bv2 gv2
 rw [e1] at h1
 rw [e2] at h2
 subst h
 exact ⟨(Sx.new w ta y tm bv gv).later (bpush (bpush (bre _) _) _),h1.later (bpush (bre _) _),h2,bpush (bpush (bpush (bre _) _) _) _,by simp⟩
end Go.Proofs.YtkbecgcbheopnaaGreat
