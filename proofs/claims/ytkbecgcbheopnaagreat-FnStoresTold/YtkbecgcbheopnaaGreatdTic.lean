/- Tic. -/

import Derived.Test.YtkbecgcbheopnaaGreatdTib
namespace Go.Proofs.YtkbecgcbheopnaaGreat
open Go.RowKit Go.ChangeMaps
def bkOk (tm:Int) (G:List Int) (S:List X7):Bool:=decide ((S.length:Int)≤5)&&(List.range S.length).all (stp7 tm G S)
set_option maxHeartbeats 16000000 in
set_option maxRecDepth 100000 in
theorem boxesOk_any (lo hi lo' hi':Nat) (y tm:Int) (ba:Option Addr) (bn bc:Nat) (ga:Option Addr) (gn gc:Nat) (S:List X7) (G:List Int) (w:World) (hl:S.length=bn) (hn:bn≤1048576) (hsb:Sb S) (hm:Bs lo hi w ba S) (hgl:G.length=gn) (hgn:gn≤1048576) (hs:Is lo' hi' w ga G) :
  Calls Tryz.prog 46 #[.agg #[.int .i64 y,.int .i64 tm,.slice ba bn bc,.slice ga gn gc]] w fun e w'=>e=.returned (.bool (bkOk tm G S))∧Below w.heap.size w w':=by
 obtain ⟨W0,hW0⟩:∃ W0,w.alloc (.cells #[.int .i64 y,.int .i64 tm,.slice ba bn bc,.slice ga gn gc] 27)=W0:=⟨_,rfl⟩
 have a0:Sx W0 w.heap.size 27 y tm (.slice ba bn bc) (.slice ga gn gc):=by subst hW0;exact Sx.new w _ y tm _ _
 have b0:Below w.heap.size w W0:=by subst hW0;exact bpush (bre _) _
 have c0:=a0.cells
 have HL:=hid hl
 have HN:=hid hn
 have HSB:=hid hsb
 have HR:=hid hm
 have HGL:=hid hgl
 have HGN:=hid hgn
 have HIS:=hid hs
 have A0:=hid a0
 have B0:=hid b0
 clear hl hsb hm hgl hgn hs a0 b0
 by_cases h5:(bn:Int)≤5
 case neg =>
  have HE:Hid (bkOk tm G S=false):=by show _=_;rw [bkOk,HL.out];simp [h5]
  have h6:(5:Int)<(bn:Int):=by omega
  go_enter Tryz.func46,Tryz.ntmps46
  go_wp2
  go_ret
  exact ⟨by rw [HE.out];rfl,B0.out⟩
 have h6:¬ (5:Int)<(bn:Int):=by omega
 have HFIVE:Hid ((bn:Int)≤5):=h5
 go_enter Tryz.func46,Tryz.ntmps46
 go_wp2
 clear hW0 h5 h6 c0
 go_loopw [3,13] (fun lv iv wr=>∃ (i:Nat) (q:Int),i≤bn∧lv=.int .i64 q∧iv=.int .i64 (i:Int)∧Hid (q=pg S i)∧Hid (∀ j,j<i→j<S.length→stp7 tm G S j=true)∧Sx wr w.heap.size 27 y tm (.slice ba bn bc) (.slice ga gn gc)∧Below w.heap.size w wr) (fun _ iv _=>bn - (intOf iv).toNat)
 case atStart=>exact ⟨0,0,Nat.zero_le _,rfl,rfl,rfl,fun j hj=>absurd hj (Nat.not_lt_zero _),A0.out,B0.out⟩
 case round =>
  obtain ⟨i,q,hin,rfl,rfl,HQ0,HA,hsx,hb⟩:=hrel
  obtain ⟨wq,hwq⟩:∃ wq,wq=wr:=⟨_,rfl⟩
  subst hwq
  have HB:=hid hb
  have A6:=hid hsx
  have c0:=hsx.cells
  have hbn:=HN.out
  clear hb hsx A0 B0
  by_cases hlt:i<bn
  ·have hil:i<S.length:=by rw [HL.out];exact hlt
   obtain ⟨k,o,ma1,mc1,ga1,gc1,rfl,hk,d,hms,his,_⟩:=HR.out.at hil
   have hmem:=HSB.out S[i] (List.getElem_mem hil)
   have HPG:=hid (pg_succ hil)
   obtain ⟨qq,hq⟩:∃ qq,S[i]=qq:=⟨_,rfl⟩
   obtain ⟨g1,nm1,t1,b1,nx1,L1,G1⟩:=qq
   have HST:=hid (stp7_at (tm:=tm) (G:=G) hil hq)
   rw [hq] at d hms his hmem HPG
   dsimp only at d hms his hmem HST HPG
   obtain ⟨m1,hm1⟩:∃ m1,L1.length=m1:=⟨_,rfl⟩
   obtain ⟨n1,hn1⟩:∃ n1,G1.length=n1:=⟨_,rfl⟩
   rw [hm1,hn1] at d hmem
   have HM1:=hid hm1
   have HN1:=hid hn1
   have HNM:=hid hmem.1
   have HML:=hid hmem.2.1
   have HSL:=hid hmem.2.2.1
   have HNL:=hid hmem.2.2.2
   have HMS:=hid hms
   have HIS1:=hid his
   obtain ⟨p,hp⟩:∃ p,bxOk g1 nm1 t1 b1 nx1 L1 G1=p:=⟨_,rfl⟩
   obtain ⟨si,hsi⟩:∃ si,inl g1 G=si:=⟨_,rfl⟩
   obtain ⟨zn,hzn⟩:∃ zn,fidx (isN nm1) S 0=zn:=⟨_,rfl⟩
   obtain ⟨tkQ,htk⟩:∃ tkQ,tmOk tm t1 L1=tkQ:=⟨_,rfl⟩
   obtain ⟨lt,hltm⟩:∃ lt,ltM t1 L1=lt:=⟨_,rfl⟩
   have HLK:Hid (decide (tm<lt)=!tkQ):=by show _=_;rw [← hltm,← htk];exact ltM_tm _ _ _
   have HLT:=hid hltm
   have HP:=hid hp
   have HSI:=hid hsi
   have HZN:=hid hzn
   have hI:(0:Int)≤(i:Int)∧(i:Int)<(bn:Int):=by omega
   rw [show bxx (g1,nm1,t1,b1,nx1,L1,G1)=p from hp,HSI.out,HZN.out,htk,← HQ0.out] at HST
   have d0:=d.later hk HB.out
   unfold C7 at d0
   clear hq hms his hmem hm1 hn1 hp hsi hzn htk d hltm
   go_wp2_with fail
   obtain ⟨W1,hW1⟩:∃ W1,wq.alloc (.cells #[.int .i64 g1,.string nm1,.int .i64 t1,.int .i64 b1,.int .i64 nx1,.slice ma1 m1 mc1,.slice ga1 n1 gc1] 37)=W1:=⟨_,rfl⟩
   have A1:Hid (Bx W1 wq.heap.size 37 g1 nm1 t1 b1 nx1 (.slice ma1 m1 mc1) (.slice ga1 n1 gc1)):=by subst hW1;exact Bx.new _ _ _ _ _ _ _ _ _
   have B1:Hid (Below wq.heap.size wq W1):=by subst hW1;exact bpush (bre _) _
   rw [hW1]
   have HS:Hid (∀ W,Below W1.heap.size W1 W→(W.cell? ⟨w.heap.size,0,none⟩=some (.int .i64 y)∧W.cell? ⟨w.heap.size,1,none⟩=some (.int .i64 tm)∧W.cell? ⟨w.heap.size,2,none⟩=some (.slice (some ⟨k,o,none⟩) bn bc)∧W.cell? ⟨w.heap.size,3,none⟩=some (.slice ga gn gc))∧(W.cell? ⟨wq.heap.size,0,none⟩=some (.int .i64 g1)∧W.cell? ⟨wq.heap.size,1,none⟩=some (.string nm1)∧W.cell? ⟨wq.heap.size,2,none⟩=some (.int .i64 t1)∧W.cell? ⟨wq.heap.size,3,none⟩=some (.int .i64 b1)∧W.cell? ⟨wq.heap.size,4,none⟩=some (.int .i64 nx1)∧W.cell? ⟨wq.heap.size,5,none⟩=some (.slice ma1 m1 mc1)∧W.cell? ⟨wq.heap.size,6,none⟩=some (.slice ga1 n1 gc1))):=fun W h=>⟨(A6.out.later (btr B1.out h)).cells,(A1.out.later h).cells⟩
   clear hW1 d0 c0 hk
   refine wp_region_noPanic ?_
   refine wp_region_held_drew (S:=(fun W=>(W.cell? ⟨w.heap.size,0,none⟩=some (.int .i64 y)∧W.cell? ⟨w.heap.size,1,none⟩=some (.int .i64 tm)∧W.cell? ⟨w.heap.size,2,none⟩=some (.slice (some ⟨k,o,none⟩) bn bc)∧W.cell? ⟨w.heap.size,3,none⟩=some (.slice ga gn gc))∧(W.cell? ⟨wq.heap.size,0,none⟩=some (.int .i64 g1)∧W.cell? ⟨wq.heap.size,1,none⟩=some (.string nm1)∧W.cell? ⟨wq.heap.size,2,none⟩=some (.int .i64 t1)∧W.cell? ⟨wq.heap.size,3,none⟩=some (.int .i64 b1)∧W.cell? ⟨wq.heap.size,4,none⟩=some (.int .i64 nx1)∧W.cell? ⟨wq.heap.size,5,none⟩=some (.slice ma1 m1 mc1)∧W.cell? ⟨wq.heap.size,6,none⟩=some (.slice ga1 n1 gc1)))) (by kernel_rfl) (HS.out _ (bdr (bre _))) (fun hHeld=>?_)
   refine tk 0 ?_
   clear hHeld
   refine ry 1 (fun K hK=>?_)
   go_simp
   refine (implBoxOk_any lo hi lo hi g1 nm1 t1 b1 nx1 ma1 m1 mc1 ga1 n1 gc1 L1 G1 _ HNM.out HM1.out HML.out HSL.out (HMS.out.later (btr HB.out (btr B1.out bb))) HN1.out HNL.out (HIS1.out.later (btr HB.out (btr B1.out bb)))).mono ?_;rintro e w2 ⟨rfl,hb2⟩
   rw [HP.out]
   go_wp2_with fail
   refine hK.out _ _ (HS.out _ bb) (fun hHeld=>?_)
   clear hK K
   try simp only [Act.put,tp2,tp3,tp4]
   cases p
   ·refine tk 2 ?_
    refine tk 3 ?_
    refine tn 4 ?_
    refine tn 5 ?_
    refine tn 6 ?_
    refine tn 7 ?_
    refine tk 8 ?_
    refine tk 9 ?_
    refine tn 10 ?_
    refine tn 11 ?_
    refine tn 12 ?_
    refine tn 14 ?_
    refine tn 13 ?_
    refine tn 15 ?_
    refine tk 16 ?_
    refine tk 17 ?_
    refine tn 18 ?_
    refine tn 19 ?_
    refine tn 20 ?_
    refine tn 21 ?_
    refine tn 22 ?_
    refine tk 23 ?_
    refine tk 24 ?_
    refine tn 25 ?_
    refine tn 27 ?_
    refine tn 28 ?_
    refine tn 26 ?_
    refine tn 29 ?_
    refine tk 30 ?_
    refine wpAnyH_done (by kernel_rfl) ?_ _
    refine NoPanic.normal ?_
    have HE:Hid (bkOk tm G S=false):=by show _=_;rw [bkOk,all_no (S:=List.range S.length) (i:=i) (by simpa using hil) (by rw [List.getElem_range,HST.out];rfl),Bool.and_false]
    clear hHeld
    go_wp2
    go_ret
    exact ⟨by rw [HE.out];rfl,btr HB.out (btr B1.out bb)⟩
   ·refine tk 2 ?_
    refine tk 3 ?_
    refine tk 4 ?_
    refine tk 5 ?_
    refine tk 6 ?_
    by_cases hle:q<g1
    ·have hle2:¬ g1≤q:=by omega
     refine tk 7 ?_
     refine tk 8 ?_
     refine tk 9 ?_
     refine tk 10 ?_
     refine tk 11 ?_
     refine tk 12 ?_
     refine tk 14 ?_
     clear hHeld
     refine ry 13 (fun K hK=>?_)
     go_simp
     refine (implBoxNamed_any lo hi y tm (some ⟨k,o,none⟩) bn bc (.slice ga gn gc) S nm1 _ HL.out HN.out (HR.out.later (btr HB.out (btr B1.out bb)))).mono ?_;rintro e w3 ⟨rfl,hb3⟩
     rw [HZN.out]
     go_wp2_with fail
     refine hK.out _ _ (HS.out _ bb) (fun hHeld=>?_)
     clear hK K
     try simp only [Act.put,tp2,tp3,tp4]
     by_cases hzn:zn=(i:Int)
     ·have hzn2:(zn != (i:Int))=false:=by simp [hzn]
      refine tk 15 ?_
      refine tk 16 ?_
      refine tk 17 ?_
      refine tk 18 ?_
      refine tk 19 ?_
      refine tk 20 ?_
      refine tk 21 ?_
      clear hHeld
      refine ry 22 (fun K hK=>?_)
      go_simp
      refine (contains_any lo' hi' ga gn gc G g1 _ HGL.out HGN.out (HIS.out.later (btr HB.out (btr B1.out bb)))).mono ?_;rintro e w4 ⟨rfl,h4⟩
      subst h4
      rw [HSI.out]
      go_wp2_with fail
      refine hK.out _ _ (HS.out _ bb) (fun hHeld=>?_)
      clear hK K
      try simp only [Act.put,tp2,tp3,tp4]
      cases si
      ·refine tk 23 ?_
       refine tk 24 ?_
       refine tk 25 ?_
       refine tk 27 ?_
       refine tk 28 ?_
       clear hHeld
       refine ry 26 (fun K hK=>?_)
       go_simp
       refine (latestTime_any lo hi g1 nm1 t1 b1 nx1 ma1 m1 mc1 (.slice ga1 n1 gc1) L1 _ HM1.out HML.out HSL.out (HMS.out.later (btr HB.out (btr B1.out bb)))).mono ?_;rintro e w5 ⟨rfl,hb5⟩
       rw [HLT.out]
       go_wp2_with fail
       refine hK.out _ _ (HS.out _ bb) (fun hHeld=>?_)
       clear hK K
       try simp only [Act.put,tp2,tp3,tp4]
       by_cases hlt9:tm<lt
       ·refine tk 29 ?_
        refine tk 30 ?_
        refine wpAnyH_done (by kernel_rfl) ?_ _
        refine NoPanic.normal ?_
        have htk:tkQ=false:=by have h:=HLK.out;simpa [hlt9] using h
        have HE:Hid (bkOk tm G S=false):=by show _=_;rw [bkOk,all_no (S:=List.range S.length) (i:=i) (by simpa using hil) (by rw [List.getElem_range,HST.out];simp [htk]),Bool.and_false]
        clear hHeld
        go_wp2
        go_ret
        exact ⟨by rw [HE.out];rfl,btr HB.out (btr B1.out bb)⟩
       ·refine tk 29 ?_
        refine tk 30 ?_
        refine wpAnyH_done (by kernel_rfl) ?_ _
        refine NoPanic.normal ?_
        have htk:tkQ=true:=by have h:=HLK.out;simpa [hlt9] using h
        have HE:Hid (∀ j,j<i+1→j<S.length→stp7 tm G S j=true):=by
         intro j hj h
         by_cases hji:j<i
         ·exact HA.out j hji h
         ·obtain rfl:j=i:=by omega
          rw [HST.out];simp [hle,hzn,htk]
        have cb:=(A1.out.later (show Below W1.heap.size W1 w5 by repeat (first | exact bre _ | refine bdr ?_ | refine btr ?_ (by assumption)))).cells
        have HBV:Hid (Below wq.heap.size wq w5):=by show Below _ _ _;refine btr B1.out ?_;repeat (first | exact bre _ | refine bdr ?_ | refine btr ?_ (by assumption))
        have A7:=hid (A6.out.later HBV.out)
        have B7:=hid (btr HB.out HBV.out)
        clear hHeld htk
        go_wp2
        go_roundw
        case rel=>exact ⟨i+1,g1,by omega,rfl,by go_num,HPG.out.symm,HE,A7.out,B7.out⟩
        case measure=>simp [intOf];omega
      ·refine tk 23 ?_
       refine tk 24 ?_
       refine tn 25 ?_
       refine tn 27 ?_
       refine tn 28 ?_
       refine tn 26 ?_
       refine tn 29 ?_
       refine tk 30 ?_
       refine wpAnyH_done (by kernel_rfl) ?_ _
       refine NoPanic.normal ?_
       have HE:Hid (bkOk tm G S=false):=by show _=_;rw [bkOk,all_no (S:=List.range S.length) (i:=i) (by simpa using hil) (by rw [List.getElem_range,HST.out];simp),Bool.and_false]
       clear hHeld
       go_wp2
       go_ret
       exact ⟨by rw [HE.out];rfl,btr HB.out (btr B1.out bb)⟩
     ·have hzn2:(zn != (i:Int))=true:=by simp [hzn]
      refine tk 15 ?_
      refine tk 16 ?_
      refine tk 17 ?_
      refine tn 18 ?_
      refine tn 19 ?_
      refine tn 20 ?_
      refine tn 21 ?_
      refine tn 22 ?_
      refine tk 23 ?_
      refine tk 24 ?_
      refine tn 25 ?_
      refine tn 27 ?_
      refine tn 28 ?_
      refine tn 26 ?_
      refine tn 29 ?_
      refine tk 30 ?_
      refine wpAnyH_done (by kernel_rfl) ?_ _
      refine NoPanic.normal ?_
      have HE:Hid (bkOk tm G S=false):=by show _=_;rw [bkOk,all_no (S:=List.range S.length) (i:=i) (by simpa using hil) (by rw [List.getElem_range,HST.out];simp [hzn]),Bool.and_false]
      clear hHeld
      go_wp2
      go_ret
      exact ⟨by rw [HE.out];rfl,btr HB.out (btr B1.out bb)⟩
    ·have hle2:g1≤q:=by omega
     refine tk 7 ?_
     refine tk 8 ?_
     refine tk 9 ?_
     refine tn 10 ?_
     refine tn 11 ?_
     refine tn 12 ?_
     refine tn 14 ?_
     refine tn 13 ?_
     refine tn 15 ?_
     refine tk 16 ?_
     refine tk 17 ?_
     refine tn 18 ?_
     refine tn 19 ?_
     refine tn 20 ?_
     refine tn 21 ?_
     refine tn 22 ?_
     refine tk 23 ?_
     refine tk 24 ?_
     refine tn 25 ?_
     refine tn 27 ?_
     refine tn 28 ?_
     refine tn 26 ?_
     refine tn 29 ?_
     refine tk 30 ?_
     refine wpAnyH_done (by kernel_rfl) ?_ _
     refine NoPanic.normal ?_
     have HE:Hid (bkOk tm G S=false):=by show _=_;rw [bkOk,all_no (S:=List.range S.length) (i:=i) (by simpa using hil) (by rw [List.getElem_range,HST.out];simp [hle]),Bool.and_false]
     clear hHeld
     go_wp2
     go_ret
     exact ⟨by rw [HE.out];rfl,btr HB.out (btr B1.out bb)⟩
  ·have HE:Hid (bkOk tm G S=true):=by
    show _=_
    have e:=HL.out
    rw [bkOk,List.all_eq_true.2 (fun j hj=>HA.out j (by have:=List.mem_range.1 hj;omega) (List.mem_range.1 hj)),HL.out]
    simp [HFIVE.out]
   go_wp2
   go_ret
   exact ⟨by rw [HE.out];rfl,HB.out⟩
end Go.Proofs.YtkbecgcbheopnaaGreat
