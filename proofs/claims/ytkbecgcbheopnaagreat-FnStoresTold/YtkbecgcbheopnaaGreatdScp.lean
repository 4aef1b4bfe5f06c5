/- Scp. -/

import Derived.Test.YtkbecgcbheopnaaGreatdSapp
namespace Go.Proofs.YtkbecgcbheopnaaGreat
open Go.RowKit Go.ChangeMaps
set_option maxHeartbeats 8000000 in
set_option maxRecDepth 100000 in
theorem l07Copy_any (lo hh lo' hh':Nat) (y tm:Int) (ba:Option Addr) (bn bc:Nat) (ga:Option Addr) (gn gc:Nat) (S:List X7) (G:List Int) (w:World) (hl:S.length=bn) (hn:bn≤1048576) (hsm:Sb S) (hm:Bs lo hh w ba S) (hgl:G.length=gn) (hgn:gn≤1048576) (hs:Is lo' hh' w ga G) (hg0:ga=none→gc=0) :
  Calls Tryz.prog 71 #[.agg #[.int .i64 y,.int .i64 tm,.slice ba bn bc,.slice ga gn gc]] w fun e w'=>∃ bv gv,e=.returned (.agg #[.int .i64 y,.int .i64 tm,bv,gv])∧OwT w' w.heap.size bv gv S G∧Below w.heap.size w w':=by
 obtain ⟨W0,hW0⟩:∃ W0,(((w.alloc (.cells #[.int .i64 y,.int .i64 tm,.slice ba bn bc,.slice ga gn gc] 27)).alloc (.cells #[.int .i64 0,.int .i64 0,.slice none 0 0,.slice none 0 0] 27)).alloc (.cells #[.int .i64 y,.int .i64 tm,.slice ba bn bc,.slice ga gn gc] 27))=W0:=⟨_,rfl⟩
 obtain ⟨a0,a1,a2,b0,s0⟩:=three_stores w _ _ _ _ _ _ _ _ _ _ _ _ _ _ _ W0 hW0
 obtain ⟨W1,hW1⟩:∃ W1,(W0.alloc (.cells #[] 37)).setCell ⟨w.heap.size+1+1,2,none⟩ (.slice (some ⟨w.heap.size+1+1+1,0,none⟩) 0 0)=W1:=⟨_,rfl⟩
 have b1:Below W0.heap.size W0 (W0.alloc (.cells #[] 37)):=bpush (bre _) _
 have G1:(W0.alloc (.cells #[] 37)).grownBy W1 (some (w.heap.size+1+1)):=by subst hW1;exact wst (wre _ _) _ _
 have e0:=(a0.later b1).off G1 (by omega)
 have e1:=(a1.later b1).off G1 (by omega)
 have e2:Sx W1 (w.heap.size+1+1) 27 y tm (.slice (some ⟨w.heap.size+1+1+1,0,none⟩) 0 0) (.slice ga gn gc):=by subst hW1;exact (a2.later b1).s2 _
 have ez:=(ownS_empty W0 (w.heap.size+1+1+1) (by omega)).grown G1 (by omega)
 rw [s0] at ez
 have eb:Below w.heap.size w W1:=(btr b0 b1).trans (below_of_grown G1 (by omega) (by have:=b1.size;omega))
 have es:w.heap.size+1+1+1≤W1.heap.size:=by have h1:=G1.size;have h2:=b1.size;omega
 have E0:=hid e0
 have E1:=hid e1
 have E2:=hid e2
 have EZ:=hid ez
 have EB:=hid eb
 have ES:=hid es
 have HL:=hid hl
 have HN:=hid hn
 have HSM:=hid hsm
 have HR:=hid hm
 have HGL:=hid hgl
 have HGN:=hid hgn
 have HIS:=hid hs
 have HG0:=hid hg0
 have k0:=(a2.later b1).cells
 have f0:=(a2.later b1).loose
 have c0:=a0.cells
 clear a0 a1 a2 b0 b1 G1 e0 e1 e2 ez eb es hl hsm hm hgl hgn hs hg0
 go_enter Tryz.func71,Tryz.ntmps71
 go_wp2
 clear hW1 hW0 k0 f0 c0 s0
 go_loopw [4] (fun iv wr=>∃ i:Nat,i≤bn∧iv=.int .i64 (i:Int)∧∃ (Y:List Y9) (vv:Value),Y.map yd=S.take i∧OwS wr (w.heap.size+1+1+1) vv Y∧Sx wr (w.heap.size+1+1) 27 y tm vv (.slice ga gn gc)∧Sx wr w.heap.size 27 y tm (.slice ba bn bc) (.slice ga gn gc)∧Sx wr (w.heap.size+1) 27 0 0 (.slice none 0 0) (.slice none 0 0)∧w.heap.size+1+1+1≤wr.heap.size∧Below w.heap.size w wr) (fun iv _=>bn - (intOf iv).toNat)
 case atStart=>exact ⟨0,Nat.zero_le _,rfl,[],_,rfl,EZ.out,E2.out,E0.out,E1.out,ES.out,EB.out⟩
 case round =>
  obtain ⟨i,hin,rfl,Y,vv,hZ,hoz,hbx,hax,hrx,hsz,hb⟩:=hrel
  have HZT:=hid hZ
  have HOZ:=hid hoz
  have AX:=hid hbx
  have A6:=hid hax
  have RX:=hid hrx
  have HBW:=hid hsz
  have HB:=hid hb
  have HWR:Hid (w.heap.size+1≤wr.heap.size):=by show _≤_;omega
  have HOL:Hid (w.heap.size+1+1<wr.heap.size):=hbx.lt
  have co:=hbx.cells.2.2.1
  have c0:=hax.cells
  clear hZ hoz hbx hax hrx hsz hb
  by_cases hlt:i<bn
  ·have hil:i<S.length:=by rw [HL.out];exact hlt
   obtain ⟨k,o,ma1,mc1,ga1,gc1,rfl,hk,d,hms,his,_,hz1⟩:=HR.out.at hil
   have hmem:=HSM.out S[i] (List.getElem_mem hil)
   obtain ⟨q,hq⟩:∃ q,S[i]=q:=⟨_,rfl⟩
   obtain ⟨g1,nm1,t1,b1,nx1,L1,G1⟩:=q
   rw [hq] at d hms his hmem
   dsimp only at d hms his hmem
   have HMS:=hid (hms.later HB.out)
   have HIS1:=hid (his.later HB.out)
   obtain ⟨m1,hm1⟩:∃ m1,L1.length=m1:=⟨_,rfl⟩
   obtain ⟨n1,hn1⟩:∃ n1,G1.length=n1:=⟨_,rfl⟩
   rw [hm1,hn1] at d
   rw [hm1,hn1] at hmem
   have HM1:=hid hm1
   have HN1:=hid hn1
   have HML:=hid hmem.2.1
   have HSL:=hid hmem.2.2.1
   have HNL:=hid hmem.2.2.2
   have HZ1:=hid hz1
   have HQ:=hid hq
   have HZL:Hid (Y.length≤1048576):=by
    show _≤_
    have h1:=congrArg List.length HZT.out
    have h2:=HN.out
    simp at h1
    omega
   have hI:(0:Int)≤(i:Int)∧(i:Int)<(bn:Int):=by omega
   have HSS:Hid (∀ W,Below (w.heap.size+1) wr W→(W.cell? ⟨w.heap.size,0,none⟩=some (.int .i64 y)∧W.cell? ⟨w.heap.size,1,none⟩=some (.int .i64 tm)∧W.cell? ⟨w.heap.size,2,none⟩=some (.slice (some ⟨k,o,none⟩) bn bc)∧W.cell? ⟨w.heap.size,3,none⟩=some (.slice ga gn gc))∧(W.cell? ⟨k,o+i*7,none⟩=some (.int .i64 g1)∧W.cell? ⟨k,o+i*7+1,none⟩=some (.string nm1)∧W.cell? ⟨k,o+i*7+2,none⟩=some (.int .i64 t1)∧W.cell? ⟨k,o+i*7+3,none⟩=some (.int .i64 b1)∧W.cell? ⟨k,o+i*7+4,none⟩=some (.int .i64 nx1)∧W.cell? ⟨k,o+i*7+5,none⟩=some (.slice ma1 m1 mc1)∧W.cell? ⟨k,o+i*7+6,none⟩=some (.slice ga1 n1 gc1))):=fun W h =>
    ⟨Sx.cells ((h.block w.heap.size (by omega)).trans A6.out),(d.later hk HB.out).same (h.block k (by omega))⟩
   clear hq hms his hmem hm1 hn1 hz1 d hk
   go_wp2_with fail
   clear c0
   refine wp_region_noPanic ?_
   refine wp_region_held_drew (S:=(fun W=>(W.cell? ⟨w.heap.size,0,none⟩=some (.int .i64 y)∧W.cell? ⟨w.heap.size,1,none⟩=some (.int .i64 tm)∧W.cell? ⟨w.heap.size,2,none⟩=some (.slice (some ⟨k,o,none⟩) bn bc)∧W.cell? ⟨w.heap.size,3,none⟩=some (.slice ga gn gc))∧(W.cell? ⟨k,o+i*7,none⟩=some (.int .i64 g1)∧W.cell? ⟨k,o+i*7+1,none⟩=some (.string nm1)∧W.cell? ⟨k,o+i*7+2,none⟩=some (.int .i64 t1)∧W.cell? ⟨k,o+i*7+3,none⟩=some (.int .i64 b1)∧W.cell? ⟨k,o+i*7+4,none⟩=some (.int .i64 nx1)∧W.cell? ⟨k,o+i*7+5,none⟩=some (.slice ma1 m1 mc1)∧W.cell? ⟨k,o+i*7+6,none⟩=some (.slice ga1 n1 gc1)))) (by kernel_rfl) (HSS.out _ (Below.drew (Below.refl _ _))) (fun hHeld=>?_)
   refine tk 0 ?_
   refine tk 2 ?_
   refine tk 3 ?_
   refine tk 4 ?_
   refine tk 5 ?_
   refine tk 6 ?_
   clear hHeld
   refine wpAnyH_ready (rs:=[1,7]) (by kernel_rfl) (by simp) ?_
   refine rc (fun K hK=>?x5) ?y5
   case' x5 =>
    go_simp
    refine hK.out _ _ (HSS.out _ (Below.drew (Below.refl _ _))) (fun hHeld=>?_)
    clear hK K
    try simp only [Act.put,tp2,tp3,tp4]
    clear hHeld
    refine ry 7 (fun K hK=>?_)
    go_simp
    refine (l06Copy_any _ _ _ _ g1 nm1 t1 b1 nx1 ma1 m1 mc1 ga1 n1 gc1 L1 G1 _ HM1.out HML.out HSL.out (HMS.out.later (bdr (bre _))) HN1.out HNL.out (HIS1.out.later (bdr (bre _))) HZ1.out).mono ?_;rintro e w2 ⟨mv2,gv2,rfl,how,hb2⟩
    have how2:=how.owx
    obtain ⟨a2,c2,d2,e2,q1,q2,_⟩:=how2.reads
    rw [HM1.out] at q1
    rw [HN1.out] at q2
    subst q1
    subst q2
    have B2:=hid (show Below wr.heap.size wr w2 from btr (bdr (bre _)) hb2)
    have HOW:Hid (OwX w2 wr.heap.size w2.heap.size (.slice a2 m1 c2) (.slice d2 n1 e2) L1 G1):=how2
    have o2:=(B2.out.cell (p:=⟨w.heap.size+1+1,2,none⟩) HOL.out).trans co
    have o3:=((bpush (bre w2) (.cells #[.int .i64 g1,.string nm1,.int .i64 t1,.int .i64 b1,.int .i64 nx1,.slice a2 m1 c2,.slice d2 n1 e2] 37)).cell (p:=⟨w.heap.size+1+1,2,none⟩) (Nat.lt_of_lt_of_le HOL.out B2.out.size)).trans o2
    clear hb2 how how2
    go_wp2_with fail
    refine hK.out _ _ (HSS.out _ (B2.out.mono HWR.out)) (fun hHeld=>?_)
    clear hK K
    try simp only [Act.put,tp2,tp3,tp4]
    clear hHeld
    refine ry 8 (fun K hK=>?_)
    go_simp
    refine hK.out _ _ (HSS.out _ ((B2.out.mono HWR.out).trans ((Below.refl _ _).alloc (Nat.le_trans HWR.out B2.out.size) _))) (fun hHeld=>?_)
    clear hK K
    try simp only [Act.put,tp2,tp3,tp4]
    clear hHeld
    refine ry 9 (fun K hK=>?_)
    refine step_append_bx rfl (.tmp 16) (.tmp 23) rfl (w.heap.size+1+1+1) _ Y (by rfl) (⟨g1,nm1,t1,b1,nx1,.slice a2 m1 c2,.slice d2 n1 e2,L1,G1,wr.heap.size,w2.heap.size⟩:Y9) (HOZ.out.later B2.out) HOW.out HBW.out (fun j hj=>.inl (HOZ.out.row.lt j hj).2) (fun x hx=>.inl (HOZ.out.each x hx).1.top) (by rfl) HZL.out (Nat.le_trans HBW.out B2.out.size) ?_;intro v3 w3 hown3 hb3 _ _
    obtain ⟨a3,c3,hv3⟩:=hown3.shape
    simp only [List.length_append,List.length_cons,List.length_nil,Nat.zero_add] at hv3
    subst hv3
    have HO3:=hid hown3
    have B3:=hid (show Below (w.heap.size+1+1+1) wr w3 from (B2.out.mono HBW.out).trans hb3)
    have x3:=(AX.out.later B2.out)
    have x4:Sx w3 (w.heap.size+1+1) 27 y tm vv (.slice ga gn gc):=(hb3.block (w.heap.size+1+1) (by omega)).trans x3
    have k3:=x4.cells
    have f3:=x4.loose
    have X4:=hid x4
    clear hown3 hb3 x3 x4
    refine hK.out _ _ (HSS.out _ (B3.out.mono (by omega))) (fun hHeld=>?_)
    clear hK K
    try simp only [Act.put,tp2,tp3,tp4]
    refine tk 10 ?_
    clear hHeld
    refine ry 11 (fun K hK=>?_)
    go_simp
    refine hK.out _ _ (HSS.out _ (B3.out.mono (by omega) |>.trans ((Below.refl _ _).setCell (p:=⟨w.heap.size+1+1,2,none⟩) (show w.heap.size+1≤w.heap.size+1+1 by omega) _))) (fun hHeld=>?_)
    clear hK K
    try simp only [Act.put,tp2,tp3,tp4]
    refine wpAnyH_done (by kernel_rfl) ?_ _
    refine NoPanic.normal ?_
   case' y5 =>
    refine rl (fun K hK=>?_)
    go_simp
    refine (l06Copy_any _ _ _ _ g1 nm1 t1 b1 nx1 ma1 m1 mc1 ga1 n1 gc1 L1 G1 _ HM1.out HML.out HSL.out (HMS.out.later (bdr (bre _))) HN1.out HNL.out (HIS1.out.later (bdr (bre _))) HZ1.out).mono ?_;rintro e w2 ⟨mv2,gv2,rfl,how,hb2⟩
    have how2:=how.owx
    obtain ⟨a2,c2,d2,e2,q1,q2,_⟩:=how2.reads
    rw [HM1.out] at q1
    rw [HN1.out] at q2
    subst q1
    subst q2
    have B2:=hid (show Below wr.heap.size wr w2 from btr (bdr (bre _)) hb2)
    have HOW:Hid (OwX w2 wr.heap.size w2.heap.size (.slice a2 m1 c2) (.slice d2 n1 e2) L1 G1):=how2
    have o2:=(B2.out.cell (p:=⟨w.heap.size+1+1,2,none⟩) HOL.out).trans co
    have o3:=((bpush (bre w2) (.cells #[.int .i64 g1,.string nm1,.int .i64 t1,.int .i64 b1,.int .i64 nx1,.slice a2 m1 c2,.slice d2 n1 e2] 37)).cell (p:=⟨w.heap.size+1+1,2,none⟩) (Nat.lt_of_lt_of_le HOL.out B2.out.size)).trans o2
    clear hb2 how how2
    go_wp2_with fail
    refine hK.out _ _ (HSS.out _ (B2.out.mono HWR.out)) (fun hHeld=>?_)
    clear hK K
    try simp only [Act.put,tp2,tp3,tp4]
    clear hHeld
    refine wpAnyH_ready (rs:=[1,8]) (by kernel_rfl) (by simp) ?_
    refine rc (fun K hK=>?x6) ?y6
    case' x6 =>
     go_simp
     refine hK.out _ _ (HSS.out _ (B2.out.mono HWR.out)) (fun hHeld=>?_)
     clear hK K
     try simp only [Act.put,tp2,tp3,tp4]
     clear hHeld
     refine ry 8 (fun K hK=>?_)
     go_simp
     refine hK.out _ _ (HSS.out _ ((B2.out.mono HWR.out).trans ((Below.refl _ _).alloc (Nat.le_trans HWR.out B2.out.size) _))) (fun hHeld=>?_)
     clear hK K
     try simp only [Act.put,tp2,tp3,tp4]
     clear hHeld
     refine ry 9 (fun K hK=>?_)
     refine step_append_bx rfl (.tmp 16) (.tmp 23) rfl (w.heap.size+1+1+1) _ Y (by rfl) (⟨g1,nm1,t1,b1,nx1,.slice a2 m1 c2,.slice d2 n1 e2,L1,G1,wr.heap.size,w2.heap.size⟩:Y9) (HOZ.out.later B2.out) HOW.out HBW.out (fun j hj=>.inl (HOZ.out.row.lt j hj).2) (fun x hx=>.inl (HOZ.out.each x hx).1.top) (by rfl) HZL.out (Nat.le_trans HBW.out B2.out.size) ?_;intro v3 w3 hown3 hb3 _ _
     obtain ⟨a3,c3,hv3⟩:=hown3.shape
     simp only [List.length_append,List.length_cons,List.length_nil,Nat.zero_add] at hv3
     subst hv3
     have HO3:=hid hown3
     have B3:=hid (show Below (w.heap.size+1+1+1) wr w3 from (B2.out.mono HBW.out).trans hb3)
     have x3:=(AX.out.later B2.out)
     have x4:Sx w3 (w.heap.size+1+1) 27 y tm vv (.slice ga gn gc):=(hb3.block (w.heap.size+1+1) (by omega)).trans x3
     have k3:=x4.cells
     have f3:=x4.loose
     have X4:=hid x4
     clear hown3 hb3 x3 x4
     refine hK.out _ _ (HSS.out _ (B3.out.mono (by omega))) (fun hHeld=>?_)
     clear hK K
     try simp only [Act.put,tp2,tp3,tp4]
     refine tk 10 ?_
     clear hHeld
     refine ry 11 (fun K hK=>?_)
     go_simp
     refine hK.out _ _ (HSS.out _ (B3.out.mono (by omega) |>.trans ((Below.refl _ _).setCell (p:=⟨w.heap.size+1+1,2,none⟩) (show w.heap.size+1≤w.heap.size+1+1 by omega) _))) (fun hHeld=>?_)
     clear hK K
     try simp only [Act.put,tp2,tp3,tp4]
     refine wpAnyH_done (by kernel_rfl) ?_ _
     refine NoPanic.normal ?_
    case' y6 =>
     refine rl (fun K hK=>?_)
     go_simp
     refine hK.out _ _ (HSS.out _ ((B2.out.mono HWR.out).trans ((Below.refl _ _).alloc (Nat.le_trans HWR.out B2.out.size) _))) (fun hHeld=>?_)
     clear hK K
     try simp only [Act.put,tp2,tp3,tp4]
     clear hHeld
     refine ry 1 (fun K hK=>?_)
     go_simp
     refine hK.out _ _ (HSS.out _ ((B2.out.mono HWR.out).trans ((Below.refl _ _).alloc (Nat.le_trans HWR.out B2.out.size) _))) (fun hHeld=>?_)
     clear hK K
     try simp only [Act.put,tp2,tp3,tp4]
     clear hHeld
     refine ry 9 (fun K hK=>?_)
     refine step_append_bx rfl (.tmp 16) (.tmp 23) rfl (w.heap.size+1+1+1) _ Y (by rfl) (⟨g1,nm1,t1,b1,nx1,.slice a2 m1 c2,.slice d2 n1 e2,L1,G1,wr.heap.size,w2.heap.size⟩:Y9) (HOZ.out.later B2.out) HOW.out HBW.out (fun j hj=>.inl (HOZ.out.row.lt j hj).2) (fun x hx=>.inl (HOZ.out.each x hx).1.top) (by rfl) HZL.out (Nat.le_trans HBW.out B2.out.size) ?_;intro v3 w3 hown3 hb3 _ _
     obtain ⟨a3,c3,hv3⟩:=hown3.shape
     simp only [List.length_append,List.length_cons,List.length_nil,Nat.zero_add] at hv3
     subst hv3
     have HO3:=hid hown3
     have B3:=hid (show Below (w.heap.size+1+1+1) wr w3 from (B2.out.mono HBW.out).trans hb3)
     have x3:=(AX.out.later B2.out)
     have x4:Sx w3 (w.heap.size+1+1) 27 y tm vv (.slice ga gn gc):=(hb3.block (w.heap.size+1+1) (by omega)).trans x3
     have k3:=x4.cells
     have f3:=x4.loose
     have X4:=hid x4
     clear hown3 hb3 x3 x4
     refine hK.out _ _ (HSS.out _ (B3.out.mono (by omega))) (fun hHeld=>?_)
     clear hK K
     try simp only [Act.put,tp2,tp3,tp4]
     refine tk 10 ?_
     clear hHeld
     refine ry 11 (fun K hK=>?_)
     go_simp
     refine hK.out _ _ (HSS.out _ (B3.out.mono (by omega) |>.trans ((Below.refl _ _).setCell (p:=⟨w.heap.size+1+1,2,none⟩) (show w.heap.size+1≤w.heap.size+1+1 by omega) _))) (fun hHeld=>?_)
     clear hK K
     try simp only [Act.put,tp2,tp3,tp4]
     refine wpAnyH_done (by kernel_rfl) ?_ _
     refine NoPanic.normal ?_
   all_goals
    have X5:=hid (X4.out.s2 (Value.slice a3 (Y.length+1) c3))
    have G5:w3.grownBy (w3.setCell ⟨w.heap.size+1+1,2,none⟩ (Value.slice a3 (Y.length+1) c3)) (some (w.heap.size+1+1)):=wst (wre _ _) _ _
    have O5:=hid (HO3.out.grown G5 (by omega))
    have a5:Sx w3 w.heap.size 27 y tm (.slice (some ⟨k,o,none⟩) bn bc) (.slice ga gn gc):=(B3.out.block w.heap.size (by omega)).trans A6.out
    have A5:=hid (a5.off G5 (by omega))
    have r5:Sx w3 (w.heap.size+1) 27 0 0 (.slice none 0 0) (.slice none 0 0):=(B3.out.block (w.heap.size+1) (by omega)).trans RX.out
    have R5:=hid (r5.off G5 (by omega))
    have B5:Hid (Below w.heap.size w (w3.setCell ⟨w.heap.size+1+1,2,none⟩ (Value.slice a3 (Y.length+1) c3))):=(HB.out.trans (B3.out.mono (by omega))).trans (below_of_grown G5 (by omega) (by have h1:=HB.out.size;have h2:=B3.out.size;omega))
    have S5:Hid (w.heap.size+1+1+1≤(w3.setCell ⟨w.heap.size+1+1,2,none⟩ (Value.slice a3 (Y.length+1) c3)).heap.size):=by show _≤_;have h1:=HBW.out;have h2:=B3.out.size;have h3:=G5.size;omega
    obtain ⟨W5,hW5⟩:∃ W5,w3.setCell ⟨w.heap.size+1+1,2,none⟩ (Value.slice a3 (Y.length+1) c3)=W5:=⟨_,rfl⟩
    rw [hW5] at X5 O5 A5 R5 B5 S5
    simp only [hW5]
    clear hHeld G5 a5 r5 k3 f3 hW5 co o2 o3
    have HE:Hid ((Y++[(⟨g1,nm1,t1,b1,nx1,.slice a2 m1 c2,.slice d2 n1 e2,L1,G1,wr.heap.size,w2.heap.size⟩:Y9)]).map yd=S.take (i+1)):=by show _=_;rw [List.map_append,HZT.out,List.take_succ_eq_append_getElem hil,HQ.out];rfl
    go_wp2
    go_roundw
    case rel=>exact ⟨i+1,by omega,by go_num,_,_,HE.out,O5.out,X5.out,A5.out,R5.out,S5.out,B5.out⟩
    case measure=>simp [intOf];omega
  ·have HE:Hid (Y.map yd=S):=by show _=_;rw [HZT.out,List.take_of_length_le (by rw [HL.out];omega)]
   obtain ⟨i0,hi0,hz0,hz1,hz2⟩:=info_parts3 info_int
   have hsv:=HOZ.out.shape
   obtain ⟨va,vc,rfl⟩:=hsv
   cases ga with
   | none =>
    have hgz:gn=0:=by
     by_cases h:0<gn
     ·obtain ⟨_,_,h1,_⟩:=HIS.out.2 0 (by rw [HGL.out];exact h)
      cases h1
     ·omega
    subst hgz
    obtain rfl:=HG0.out rfl
    have hge:G=[]:=List.eq_nil_of_length_eq_zero HGL.out
    subst hge
    obtain ⟨w1,hw1⟩:∃ w1,wr.alloc (.cells #[] 3)=w1:=⟨_,rfl⟩
    have b1:Below wr.heap.size wr w1:=by subst hw1;exact bpush (bre _) _
    have own1:OwI w1 wr.heap.size (.slice (some ⟨wr.heap.size,0,none⟩) 0 0) []:=by subst hw1;exact ownI_empty wr _ (Nat.le_refl _)
    have x1:=AX.out.later b1
    have r1:=RX.out.later b1
    have k2:=x1.cells
    have f2:=x1.loose
    have k1:=r1.cells
    have f1:=r1.loose
    have X1:=hid x1
    have R1:=hid r1
    have B1:=hid b1
    have O1:=hid own1
    have ca:=(A6.out.later b1).cells
    clear x1 r1 b1 own1 co
    go_wp2
    clear hw1
    have k2:=X1.out.s3 (.slice ((some ⟨wr.heap.size,0,none⟩)) 0 0)
    have e1:w1.grownBy (w1.setCell ⟨w.heap.size+1+1,3,none⟩ (.slice ((some ⟨wr.heap.size,0,none⟩)) 0 0)) (some (w.heap.size+1+1)):=wst (wre _ _) _ _
    have k1:=R1.out.off e1 (by omega)
    have e2:=put4_grown (w1.setCell ⟨w.heap.size+1+1,3,none⟩ (.slice ((some ⟨wr.heap.size,0,none⟩)) 0 0)) (w.heap.size+1) y tm (.slice va Y.length vc) (.slice ((some ⟨wr.heap.size,0,none⟩)) 0 0)
    have d1:=(k1.put4 y tm (.slice va Y.length vc) (.slice ((some ⟨wr.heap.size,0,none⟩)) 0 0)).cells
    unfold put4 at d1 e2
    have HD:Dj (.slice ((some ⟨wr.heap.size,0,none⟩)) 0 0) (.slice va Y.length vc):=Dj.later HOZ.out.row O1.out (Nat.le_refl _)
    have HEE:∀ z∈Y,∀ j,Value.ownBlock (.slice ((some ⟨wr.heap.size,0,none⟩)) 0 0)=some j→j<z.lo∨z.hi≤j:=fun z hz j hj=>.inr (Nat.le_trans (HOZ.out.each z hz).1.top (O1.out.lt j hj).1)
    have h1:=HBW.out
    have h2:=HB.out.size
    have h3:=B1.out.size
    have h4:=e1.size
    refine bodyPost_ret (v:=.agg #[.int .i64 y,.int .i64 tm,.slice va Y.length vc,.slice ((some ⟨wr.heap.size,0,none⟩)) 0 0]) (by simp [results,Tryz.results71,go_sem,d1]) rfl ⟨_,_,rfl,⟨Y,HE.out,?_,?_,HD,HEE⟩,?_⟩
    ·exact (((HOZ.out.later B1.out).grown e1 (by omega)).grown e2 (by omega)).base (by omega)
    ·exact own_base (OwI.grown (OwI.grown O1.out e1 (by omega)) e2 (by omega)) (by omega)
    ·exact (btr HB.out B1.out).trans ((below_of_grown e1 (by omega) (by omega)).trans (below_of_grown e2 (by omega) (by omega)))
   | some ad =>
    have HSRC:Hid (∀ j u,(G.map (Value.int .i64))[j]?=some u→(wr.alloc (.cells #[] 3)).cell? (ad.add j)=some u):=(HIS.out.later (btr HB.out (bpush (bre _) _))).all
    have ca:=(A6.out.later (bpush (bre wr) (.cells #[] 3))).cells
    clear co
    go_wp2_with (at_builtin;refine wpList_append_own _ rfl (.tmp 26) (.tmp 28) 25 rfl wr.heap.size 3 i0 _ 1 8 Tryz.underlying25 hi0 hz0 hz1 hz2 rfl (by decide) _ 0 [] (by rfl) (ownI_empty wr _ (Nat.le_refl _)) ad gn gc (G.map (Value.int .i64)) (by rfl) (by rw [List.length_map,HGL.out,Nat.mul_one]) HSRC.out (int_one G) (by have:=HGN.out;unfold maxLen;omega) (by have:=HGN.out;omega) (by simp) ?_;intro v1 w1 hown1 hg1 _;have own1:OwI w1 wr.heap.size v1 G:=(by simpa [OwI,HGL.out] using hown1);obtain ⟨ag,cg,hvg,_⟩:=own1.shape;rw [HGL.out] at hvg;subst hvg;have b1:Below wr.heap.size wr w1:=(bpush (bre wr) _).grown hg1 (by simp) (by intro k hk;simp [Value.ownBlock] at hk;omega);have x1:=AX.out.later b1;have r1:=RX.out.later b1;have k2:=x1.cells;have f2:=x1.loose;have k1:=r1.cells;have f1:=r1.loose;have X1:=hid x1;have R1:=hid r1;have B1:=hid b1;have O1:=hid own1;clear x1 r1 b1 own1 hown1 hg1)
    have k2:=X1.out.s3 (.slice (ag) gn cg)
    have e1:w1.grownBy (w1.setCell ⟨w.heap.size+1+1,3,none⟩ (.slice (ag) gn cg)) (some (w.heap.size+1+1)):=wst (wre _ _) _ _
    have k1:=R1.out.off e1 (by omega)
    have e2:=put4_grown (w1.setCell ⟨w.heap.size+1+1,3,none⟩ (.slice (ag) gn cg)) (w.heap.size+1) y tm (.slice va Y.length vc) (.slice (ag) gn cg)
    have d1:=(k1.put4 y tm (.slice va Y.length vc) (.slice (ag) gn cg)).cells
    unfold put4 at d1 e2
    have HD:Dj (.slice (ag) gn cg) (.slice va Y.length vc):=Dj.later HOZ.out.row O1.out (Nat.le_refl _)
    have HEE:∀ z∈Y,∀ j,Value.ownBlock (.slice (ag) gn cg)=some j→j<z.lo∨z.hi≤j:=fun z hz j hj=>.inr (Nat.le_trans (HOZ.out.each z hz).1.top (O1.out.lt j hj).1)
    have h1:=HBW.out
    have h2:=HB.out.size
    have h3:=B1.out.size
    have h4:=e1.size
    refine bodyPost_ret (v:=.agg #[.int .i64 y,.int .i64 tm,.slice va Y.length vc,.slice (ag) gn cg]) (by simp [results,Tryz.results71,go_sem,d1]) rfl ⟨_,_,rfl,⟨Y,HE.out,?_,?_,HD,HEE⟩,?_⟩
    ·exact (((HOZ.out.later B1.out).grown e1 (by omega)).grown e2 (by omega)).base (by omega)
    ·exact own_base (OwI.grown (OwI.grown O1.out e1 (by omega)) e2 (by omega)) (by omega)
    ·exact (btr HB.out B1.out).trans ((below_of_grown e1 (by omega) (by omega)).trans (below_of_grown e2 (by omega) (by omega)))
end Go.Proofs.YtkbecgcbheopnaaGreat
