/- Cpz, Srow, SrowB, Stb. -/
import Derived.Test.YtdkedgedkgabnaaGreatDoorX10
namespace Go.Proofs.YtdkedgedkgabnaaGreatDoor
open Go.RowKit Go.ChangeMaps
set_option maxHeartbeats 16000000
set_option maxRecDepth 100000
theorem l06Copy_any (lo hh lo' hh':Nat) (g:Int) (nm:ByteArray) (t b nx:Int) (ma:Option Addr) (mn mc:Nat) (ga:Option Addr) (gn gc:Nat) (L:List M4) (G:List Int) (w:World) (hl:L.length=mn) (hn:mn≤1048576) (hsm:Sm L) (hm:Ms lo hh w ma L) (hgl:G.length=gn) (hgn:gn≤1048576) (hs:Is lo' hh' w ga G) (hg0:ga=none→gc=0) :
  Calls Tryz.prog 93 #[.agg #[.int .i64 g,.string nm,.int .i64 t,.int .i64 b,.int .i64 nx,.slice ma mn mc,.slice ga gn gc]] w fun e w'=>∃ mv gv,e=.returned (.agg #[.int .i64 g,.string nm,.int .i64 t,.int .i64 b,.int .i64 nx,mv,gv])∧OwB w' w.heap.size mv gv L G∧Below w.heap.size w w':=by
 obtain ⟨W0,hW0⟩:∃ W0,(((w.alloc (.cells #[.int .i64 g,.string nm,.int .i64 t,.int .i64 b,.int .i64 nx,.slice ma mn mc,.slice ga gn gc] 38)).alloc (.cells #[.int .i64 0,.string ⟨#[]⟩,.int .i64 0,.int .i64 0,.int .i64 0,.slice none 0 0,.slice none 0 0] 38)).alloc (.cells #[.int .i64 g,.string nm,.int .i64 t,.int .i64 b,.int .i64 nx,.slice ma mn mc,.slice ga gn gc] 38))=W0:=⟨_,rfl⟩;obtain ⟨a0,a1,a2,b0,s0⟩:=three_boxes w _ _ _ _ _ _ _ _ _ _ _ _ _ _ _ _ _ _ _ _ _ _ _ _ W0 hW0;obtain ⟨W1,hW1⟩:∃ W1,(W0.alloc (.cells #[] 78)).setCell ⟨w.heap.size+1+1,5,none⟩ (.slice (some ⟨w.heap.size+1+1+1,0,none⟩) 0 0)=W1:=⟨_,rfl⟩;have b1:Below W0.heap.size W0 (W0.alloc (.cells #[] 78)):=bpush (bre _) _
 have G1:(W0.alloc (.cells #[] 78)).grownBy W1 (some (w.heap.size+1+1)):=by subst hW1;exact wst (wre _ _) _ _
 have e0:=(a0.later b1).grown G1 (fun e=>by simp only [Option.some.injEq] at e;omega);have e1:=(a1.later b1).grown G1 (fun e=>by simp only [Option.some.injEq] at e;omega)
 have e2:Bx W1 (w.heap.size+1+1) 38 g nm t b nx (.slice (some ⟨w.heap.size+1+1+1,0,none⟩) 0 0) (.slice ga gn gc):=by subst hW1;exact (a2.later b1).s5 _
 have ez:=(ownZ_empty W0 (w.heap.size+1+1+1) (by omega)).grown G1 (by omega);rw [s0] at ez;have eb:Below w.heap.size w W1:=(btr b0 b1).trans (below_of_grown G1 (by omega) (by have:=b1.size;omega))
 have es:w.heap.size+1+1+1≤W1.heap.size:=by have h1:=G1.size;have h2:=b1.size;omega
 have E0:=hid e0;have E1:=hid e1;have E2:=hid e2;have EZ:=hid ez;have EB:=hid eb;have ES:=hid es;have HS0:=hid s0;have HL:=hid hl;have HN:=hid hn;have HSM:=hid hsm;have HR:=hid hm;have HGL:=hid hgl;have HGN:=hid hgn;have HIS:=hid hs;have HG0:=hid hg0;have k0:=(a2.later b1).cells;have f0:=(a2.later b1).loose;have c0:=a0.cells;clear a0 a1 a2 b0 b1 G1 e0 e1 e2 ez eb es hl hsm hm hgl hgn hs hg0
 go_enter Tryz.func93,Tryz.ntmps93
 go_wp2
 clear hW1 hW0 k0 f0 c0 s0
 go_loopw [4] (fun iv wr=>∃ i:Nat,i≤mn∧iv=.int .i64 (i:Int)∧∃ (Z:List Z5) (vv:Value),Z.map md=L.take i∧OwZ wr (w.heap.size+1+1+1) vv Z∧Bx wr (w.heap.size+1+1) 38 g nm t b nx vv (.slice ga gn gc)∧Bx wr w.heap.size 38 g nm t b nx (.slice ma mn mc) (.slice ga gn gc)∧Bx wr (w.heap.size+1) 38 0 ⟨#[]⟩ 0 0 0 (.slice none 0 0) (.slice none 0 0)∧w.heap.size+1+1+1≤wr.heap.size∧Below w.heap.size w wr) (fun iv _=>mn - (intOf iv).toNat)
 case atStart=>exact ⟨0,Nat.zero_le _,rfl,[],_,rfl,EZ.out,E2.out,E0.out,E1.out,ES.out,EB.out⟩
 case round =>
  obtain ⟨i,hin,rfl,Z,vv,hZ,hoz,hbx,hax,hrx,hsz,hb⟩:=hrel;have HZT:=hid hZ;have HOZ:=hid hoz;have AX:=hid hbx;have A6:=hid hax;have RX:=hid hrx;have HBW:=hid hsz;have HB:=hid hb
  have HWR:Hid (w.heap.size+1≤wr.heap.size):=by show _≤_;omega
  have HOL:Hid (w.heap.size+1+1<wr.heap.size):=hbx.lt;have co:=hbx.cells.2.2.2.2.2.1;have c0:=hax.cells;clear hZ hoz hbx hax hrx hsz hb
  by_cases hlt:i<mn
  ·have hil:i<L.length:=by rw [HL.out];exact hlt
   obtain ⟨k,o,fa,fc,rfl,hk,⟨d0,d1,d2,d3⟩,hrs,hz0⟩:=HR.out.at hil;have hmem:=HSM.out L[i] (List.getElem_mem hil);obtain ⟨q,hq⟩:∃ q,L[i]=q:=⟨_,rfl⟩;obtain ⟨g1,u1,l1,t1⟩:=q;rw [hq] at d0 d1 d2 d3 hrs hmem;have HRS:=hid (hrs.later HB.out);obtain ⟨m,hm⟩:∃ m,l1.length=m:=⟨_,rfl⟩;dsimp only at d0 d1 d2 d3;rw [hm] at d2;have HM:=hid hm
   have HML:Hid (m≤1048576):=by show _≤_;rw [← hm];exact hmem.1
   have HTL:=hid hmem.2;have HZ0:=hid hz0;have HQ:=hid hq
   have HZL:Hid (Z.length≤1048576):=by
    show _≤_
    have h1:=congrArg List.length HZT.out;have h2:=HN.out
    simp at h1
    omega
   have hI:(0:Int)≤(i:Int)∧(i:Int)<(mn:Int):=by omega
   have HSS:Hid (∀ W,Below (w.heap.size+1) wr W→(W.cell? ⟨w.heap.size,0,none⟩=some (.int .i64 g)∧W.cell? ⟨w.heap.size,1,none⟩=some (.string nm)∧W.cell? ⟨w.heap.size,2,none⟩=some (.int .i64 t)∧W.cell? ⟨w.heap.size,3,none⟩=some (.int .i64 b)∧W.cell? ⟨w.heap.size,4,none⟩=some (.int .i64 nx)∧W.cell? ⟨w.heap.size,5,none⟩=some (.slice (some ⟨k,o,none⟩) mn mc)∧W.cell? ⟨w.heap.size,6,none⟩=some (.slice ga gn gc))∧(W.cell? ⟨k,o+i*4,none⟩=some (.int .i64 g1)∧W.cell? ⟨k,o+i*4+1,none⟩=some (.int .i64 u1)∧W.cell? ⟨k,o+i*4+2,none⟩=some (.slice fa m fc)∧W.cell? ⟨k,o+i*4+3,none⟩=some (.string t1))):=fun W h =>
    ⟨Bx.cells ((h.block w.heap.size (by omega)).trans A6.out),⟨(h.cell (p:=⟨k,_,none⟩) (by show k<_;omega)).trans ((HB.out.cell (p:=⟨k,_,none⟩) hk).trans d0),(h.cell (p:=⟨k,_,none⟩) (by show k<_;omega)).trans ((HB.out.cell (p:=⟨k,_,none⟩) hk).trans d1),(h.cell (p:=⟨k,_,none⟩) (by show k<_;omega)).trans ((HB.out.cell (p:=⟨k,_,none⟩) hk).trans d2),(h.cell (p:=⟨k,_,none⟩) (by show k<_;omega)).trans ((HB.out.cell (p:=⟨k,_,none⟩) hk).trans d3)⟩⟩
   clear hq hrs hmem hm hz0 d0 d1 d2 d3 hk
   go_wp2_with fail
   clear c0;refine wp_region_noPanic ?_;refine wp_region_held_drew (S:=(fun W=>(W.cell? ⟨w.heap.size,0,none⟩=some (.int .i64 g)∧W.cell? ⟨w.heap.size,1,none⟩=some (.string nm)∧W.cell? ⟨w.heap.size,2,none⟩=some (.int .i64 t)∧W.cell? ⟨w.heap.size,3,none⟩=some (.int .i64 b)∧W.cell? ⟨w.heap.size,4,none⟩=some (.int .i64 nx)∧W.cell? ⟨w.heap.size,5,none⟩=some (.slice (some ⟨k,o,none⟩) mn mc)∧W.cell? ⟨w.heap.size,6,none⟩=some (.slice ga gn gc))∧(W.cell? ⟨k,o+i*4,none⟩=some (.int .i64 g1)∧W.cell? ⟨k,o+i*4+1,none⟩=some (.int .i64 u1)∧W.cell? ⟨k,o+i*4+2,none⟩=some (.slice fa m fc)∧W.cell? ⟨k,o+i*4+3,none⟩=some (.string t1)))) (by kernel_rfl) (HSS.out _ (Below.drew (Below.refl _ _))) (fun hHeld=>?_);refine tk 0 ?_;refine tk 2 ?_;refine tk 3 ?_;refine tk 4 ?_;refine tk 5 ?_;refine tk 6 ?_;clear hHeld;refine wpAnyH_ready (rs:=[1,7]) (by kernel_rfl) (by simp) ?_;refine rc (fun K hK=>?x1) ?y1
   case' x1 =>
    go_simp;refine hK.out _ _ (HSS.out _ (Below.drew (Below.refl _ _))) (fun hHeld=>?_);clear hK K;try simp only [Act.put,tq]
    clear hHeld;refine ry 7 (fun K hK=>?_);go_simp;refine (l05Copy_any g1 u1 fa m fc l1 t1 _ HM.out HML.out HTL.out (HRS.out.later (bdr (bre _))) HZ0.out).mono ?_;rintro e w2 ⟨v,rfl,how,hb2⟩;obtain ⟨a2,c2,rfl,_⟩:=Ow.shape how;rw [HM.out] at how ⊢;have B2:=hid (show Below wr.heap.size wr w2 from btr (bdr (bre _)) hb2);have HOW:=hid how;have o2:=(B2.out.cell (p:=⟨w.heap.size+1+1,5,none⟩) HOL.out).trans co;have o3:=((bpush (bre w2) (.cells #[.int .i64 g1,.int .i64 u1,.slice a2 m c2,.string t1] 78)).cell (p:=⟨w.heap.size+1+1,5,none⟩) (Nat.lt_of_lt_of_le HOL.out B2.out.size)).trans o2;clear hb2 how
    go_wp2_with fail
    refine hK.out _ _ (HSS.out _ (B2.out.mono HWR.out)) (fun hHeld=>?_);clear hK K;try simp only [Act.put,tq]
    clear hHeld;refine ry 8 (fun K hK=>?_);go_simp;refine hK.out _ _ (HSS.out _ ((B2.out.mono HWR.out).trans ((Below.refl _ _).alloc (Nat.le_trans HWR.out B2.out.size) _))) (fun hHeld=>?_);clear hK K;try simp only [Act.put,tq]
    clear hHeld;refine ry 9 (fun K hK=>?_);refine step_append_ml rfl (.tmp 16) (.tmp 23) rfl (w.heap.size+1+1+1) _ Z (by rfl) (g1,u1,.slice a2 m c2,l1,t1) (HOZ.out.later B2.out) (own_base HOW.out HBW.out) (fun j hj hj'=>by have h1:=(HOZ.out.row.lt j hj).2;have h2:wr.heap.size≤j:=(HOW.out.lt j hj').1;omega) (fun y hy j hj hj'=>by have h1:=((HOZ.out.each y hy).lt j hj).2;have h2:wr.heap.size≤j:=(HOW.out.lt j hj').1;omega) (by rfl) HZL.out (Nat.le_trans HBW.out B2.out.size) ?_;intro v3 w3 hown3 hb3 _ _;obtain ⟨a3,c3,hv3⟩:=hown3.shape;simp only [List.length_append,List.length_cons,List.length_nil,Nat.zero_add] at hv3;subst hv3;have HO3:=hid hown3;have B3:=hid (show Below (w.heap.size+1+1+1) wr w3 from (B2.out.mono HBW.out).trans hb3);have x3:=(AX.out.later B2.out);have x4:Bx w3 (w.heap.size+1+1) 38 g nm t b nx vv (.slice ga gn gc):=(hb3.block (w.heap.size+1+1) (by omega)).trans x3;have k3:=x4.cells;have f3:=x4.loose;have X4:=hid x4;clear hown3 hb3 x3 x4;refine hK.out _ _ (HSS.out _ (B3.out.mono (by omega))) (fun hHeld=>?_);clear hK K;try simp only [Act.put,tq]
    refine tk 10 ?_;clear hHeld;refine ry 11 (fun K hK=>?_);go_simp;refine hK.out _ _ (HSS.out _ (B3.out.mono (by omega) |>.trans ((Below.refl _ _).setCell (p:=⟨w.heap.size+1+1,5,none⟩) (show w.heap.size+1≤w.heap.size+1+1 by omega) _))) (fun hHeld=>?_);clear hK K;try simp only [Act.put,tq]
    refine dn ?_
   case' y1 =>
    refine rl (fun K hK=>?_);go_simp;refine (l05Copy_any g1 u1 fa m fc l1 t1 _ HM.out HML.out HTL.out (HRS.out.later (bdr (bre _))) HZ0.out).mono ?_;rintro e w2 ⟨v,rfl,how,hb2⟩;obtain ⟨a2,c2,rfl,_⟩:=Ow.shape how;rw [HM.out] at how ⊢;have B2:=hid (show Below wr.heap.size wr w2 from btr (bdr (bre _)) hb2);have HOW:=hid how;have o2:=(B2.out.cell (p:=⟨w.heap.size+1+1,5,none⟩) HOL.out).trans co;have o3:=((bpush (bre w2) (.cells #[.int .i64 g1,.int .i64 u1,.slice a2 m c2,.string t1] 78)).cell (p:=⟨w.heap.size+1+1,5,none⟩) (Nat.lt_of_lt_of_le HOL.out B2.out.size)).trans o2;clear hb2 how
    go_wp2_with fail
    refine hK.out _ _ (HSS.out _ (B2.out.mono HWR.out)) (fun hHeld=>?_);clear hK K;try simp only [Act.put,tq]
    clear hHeld;refine wpAnyH_ready (rs:=[1,8]) (by kernel_rfl) (by simp) ?_;refine rc (fun K hK=>?x2) ?y2
    case' x2 =>
     go_simp;refine hK.out _ _ (HSS.out _ (B2.out.mono HWR.out)) (fun hHeld=>?_);clear hK K;try simp only [Act.put,tq]
     clear hHeld;refine ry 8 (fun K hK=>?_);go_simp;refine hK.out _ _ (HSS.out _ ((B2.out.mono HWR.out).trans ((Below.refl _ _).alloc (Nat.le_trans HWR.out B2.out.size) _))) (fun hHeld=>?_);clear hK K;try simp only [Act.put,tq]
     clear hHeld;refine ry 9 (fun K hK=>?_);refine step_append_ml rfl (.tmp 16) (.tmp 23) rfl (w.heap.size+1+1+1) _ Z (by rfl) (g1,u1,.slice a2 m c2,l1,t1) (HOZ.out.later B2.out) (own_base HOW.out HBW.out) (fun j hj hj'=>by have h1:=(HOZ.out.row.lt j hj).2;have h2:wr.heap.size≤j:=(HOW.out.lt j hj').1;omega) (fun y hy j hj hj'=>by have h1:=((HOZ.out.each y hy).lt j hj).2;have h2:wr.heap.size≤j:=(HOW.out.lt j hj').1;omega) (by rfl) HZL.out (Nat.le_trans HBW.out B2.out.size) ?_;intro v3 w3 hown3 hb3 _ _;obtain ⟨a3,c3,hv3⟩:=hown3.shape;simp only [List.length_append,List.length_cons,List.length_nil,Nat.zero_add] at hv3;subst hv3;have HO3:=hid hown3;have B3:=hid (show Below (w.heap.size+1+1+1) wr w3 from (B2.out.mono HBW.out).trans hb3);have x3:=(AX.out.later B2.out);have x4:Bx w3 (w.heap.size+1+1) 38 g nm t b nx vv (.slice ga gn gc):=(hb3.block (w.heap.size+1+1) (by omega)).trans x3;have k3:=x4.cells;have f3:=x4.loose;have X4:=hid x4;clear hown3 hb3 x3 x4;refine hK.out _ _ (HSS.out _ (B3.out.mono (by omega))) (fun hHeld=>?_);clear hK K;try simp only [Act.put,tq]
     refine tk 10 ?_;clear hHeld;refine ry 11 (fun K hK=>?_);go_simp;refine hK.out _ _ (HSS.out _ (B3.out.mono (by omega) |>.trans ((Below.refl _ _).setCell (p:=⟨w.heap.size+1+1,5,none⟩) (show w.heap.size+1≤w.heap.size+1+1 by omega) _))) (fun hHeld=>?_);clear hK K;try simp only [Act.put,tq]
     refine dn ?_
    case' y2 =>
     refine rl (fun K hK=>?_);go_simp;refine hK.out _ _ (HSS.out _ ((B2.out.mono HWR.out).trans ((Below.refl _ _).alloc (Nat.le_trans HWR.out B2.out.size) _))) (fun hHeld=>?_);clear hK K;try simp only [Act.put,tq]
     clear hHeld;refine ry 1 (fun K hK=>?_);go_simp;refine hK.out _ _ (HSS.out _ ((B2.out.mono HWR.out).trans ((Below.refl _ _).alloc (Nat.le_trans HWR.out B2.out.size) _))) (fun hHeld=>?_);clear hK K;try simp only [Act.put,tq]
     clear hHeld;refine ry 9 (fun K hK=>?_);refine step_append_ml rfl (.tmp 16) (.tmp 23) rfl (w.heap.size+1+1+1) _ Z (by rfl) (g1,u1,.slice a2 m c2,l1,t1) (HOZ.out.later B2.out) (own_base HOW.out HBW.out) (fun j hj hj'=>by have h1:=(HOZ.out.row.lt j hj).2;have h2:wr.heap.size≤j:=(HOW.out.lt j hj').1;omega) (fun y hy j hj hj'=>by have h1:=((HOZ.out.each y hy).lt j hj).2;have h2:wr.heap.size≤j:=(HOW.out.lt j hj').1;omega) (by rfl) HZL.out (Nat.le_trans HBW.out B2.out.size) ?_;intro v3 w3 hown3 hb3 _ _;obtain ⟨a3,c3,hv3⟩:=hown3.shape;simp only [List.length_append,List.length_cons,List.length_nil,Nat.zero_add] at hv3;subst hv3;have HO3:=hid hown3;have B3:=hid (show Below (w.heap.size+1+1+1) wr w3 from (B2.out.mono HBW.out).trans hb3);have x3:=(AX.out.later B2.out);have x4:Bx w3 (w.heap.size+1+1) 38 g nm t b nx vv (.slice ga gn gc):=(hb3.block (w.heap.size+1+1) (by omega)).trans x3;have k3:=x4.cells;have f3:=x4.loose;have X4:=hid x4;clear hown3 hb3 x3 x4;refine hK.out _ _ (HSS.out _ (B3.out.mono (by omega))) (fun hHeld=>?_);clear hK K;try simp only [Act.put,tq]
     refine tk 10 ?_;clear hHeld;refine ry 11 (fun K hK=>?_);go_simp;refine hK.out _ _ (HSS.out _ (B3.out.mono (by omega) |>.trans ((Below.refl _ _).setCell (p:=⟨w.heap.size+1+1,5,none⟩) (show w.heap.size+1≤w.heap.size+1+1 by omega) _))) (fun hHeld=>?_);clear hK K;try simp only [Act.put,tq]
     refine dn ?_
   all_goals
    have X5:=hid (X4.out.s5 (Value.slice a3 (Z.length+1) c3));have G5:w3.grownBy (w3.setCell ⟨w.heap.size+1+1,5,none⟩ (Value.slice a3 (Z.length+1) c3)) (some (w.heap.size+1+1)):=wst (wre _ _) _ _;have O5:=hid (HO3.out.grown G5 (by omega));have a5:Bx w3 w.heap.size 38 g nm t b nx (.slice (some ⟨k,o,none⟩) mn mc) (.slice ga gn gc):=(B3.out.block w.heap.size (by omega)).trans A6.out;have A5:=hid (a5.grown G5 (fun e=>by simp only [Option.some.injEq] at e;omega));have r5:Bx w3 (w.heap.size+1) 38 0 ⟨#[]⟩ 0 0 0 (.slice none 0 0) (.slice none 0 0):=(B3.out.block (w.heap.size+1) (by omega)).trans RX.out;have R5:=hid (r5.grown G5 (fun e=>by simp only [Option.some.injEq] at e;omega));have B5:Hid (Below w.heap.size w (w3.setCell ⟨w.heap.size+1+1,5,none⟩ (Value.slice a3 (Z.length+1) c3))):=(HB.out.trans (B3.out.mono (by omega))).trans (below_of_grown G5 (by omega) (by have h1:=HB.out.size;have h2:=B3.out.size;omega))
    have S5:Hid (w.heap.size+1+1+1≤(w3.setCell ⟨w.heap.size+1+1,5,none⟩ (Value.slice a3 (Z.length+1) c3)).heap.size):=by show _≤_;have h1:=HBW.out;have h2:=B3.out.size;have h3:=G5.size;omega
    obtain ⟨W5,hW5⟩:∃ W5,w3.setCell ⟨w.heap.size+1+1,5,none⟩ (Value.slice a3 (Z.length+1) c3)=W5:=⟨_,rfl⟩;rw [hW5] at X5 O5 A5 R5 B5 S5;simp only [hW5];clear hHeld G5 a5 r5 k3 f3 hW5 co o2 o3
    have HE:Hid ((Z++[((g1,u1,Value.slice a2 m c2,l1,t1):Z5)]).map md=L.take (i+1)):=by show _=_;rw [List.map_append,HZT.out,List.take_succ_eq_append_getElem hil,HQ.out];rfl
    go_wp2
    go_roundw
    case rel=>exact ⟨i+1,by omega,by go_num,_,_,HE.out,O5.out,X5.out,A5.out,R5.out,S5.out,B5.out⟩
    case measure=>simp [intOf];omega
  have HE:Hid (Z.map md=L):=by show _=_;rw [HZT.out,List.take_of_length_le (by rw [HL.out];omega)]
  obtain ⟨i0,hi0,hz0,hz1,hz2⟩:=info_parts3 info_int;have hsv:=HOZ.out.shape;obtain ⟨va,vc,rfl⟩:=hsv
  cases ga with
  | none =>
   have hgz:gn=0:=by
    by_cases h:0<gn
    ·obtain ⟨_,_,h1,_⟩:=HIS.out.2 0 (by rw [HGL.out];exact h)
     cases h1
    omega
   subst hgz;obtain rfl:=HG0.out rfl;have hge:G=[]:=List.eq_nil_of_length_eq_zero HGL.out;subst hge;obtain ⟨w1,hw1⟩:∃ w1,wr.alloc (.cells #[] 3)=w1:=⟨_,rfl⟩
   have b1:Below wr.heap.size wr w1:=by subst hw1;exact bpush (bre _) _
   have own1:OwI w1 wr.heap.size (.slice (some ⟨wr.heap.size,0,none⟩) 0 0) []:=by subst hw1;exact ownI_empty wr _ (Nat.le_refl _)
   have x1:=AX.out.later b1;have r1:=RX.out.later b1;have k2:=x1.cells;have f2:=x1.loose;have k1:=r1.cells;have f1:=r1.loose;have X1:=hid x1;have R1:=hid r1;have B1:=hid b1;have O1:=hid own1;have ca:=(A6.out.later b1).cells;clear x1 r1 b1 own1 co
   go_wp2
   clear hw1;have k2:=X1.out.s6 (.slice (some ⟨wr.heap.size,0,none⟩) 0 0);have e1:w1.grownBy (w1.setCell ⟨w.heap.size+1+1,6,none⟩ (.slice (some ⟨wr.heap.size,0,none⟩) 0 0)) (some (w.heap.size+1+1)):=wst (wre _ _) _ _;have k1:=R1.out.grown e1 (fun e=>by simp only [Option.some.injEq] at e;omega);have e2:=set7_grown (w1.setCell ⟨w.heap.size+1+1,6,none⟩ (.slice (some ⟨wr.heap.size,0,none⟩) 0 0)) (w.heap.size+1) g nm t b nx (.slice va Z.length vc) (.slice (some ⟨wr.heap.size,0,none⟩) 0 0);have d1:=(k1.set7 g nm t b nx (.slice va Z.length vc) (.slice (some ⟨wr.heap.size,0,none⟩) 0 0)).cells;unfold set7 at d1 e2;have HD:=Dj.later HOZ.out.row O1.out (Nat.le_refl _);have HEE:=fun z hz=>Dj.later (HOZ.out.each z hz) O1.out (Nat.le_refl _);have h1:=HBW.out;have h2:=HB.out.size;have h3:=B1.out.size;have h4:=e1.size;refine bodyPost_ret (v:=.agg #[.int .i64 g,.string nm,.int .i64 t,.int .i64 b,.int .i64 nx,.slice va Z.length vc,.slice (some ⟨wr.heap.size,0,none⟩) 0 0]) (by simp [results,Tryz.results93,go_sem,d1]) rfl ⟨_,_,rfl,⟨Z,HE.out,?_,?_,HD,HEE⟩,?_⟩
   ·exact (((HOZ.out.later B1.out).grown e1 (by omega)).grown e2 (by omega)).base (by omega)
   ·exact own_base (OwI.grown (OwI.grown O1.out e1 (by omega)) e2 (by omega)) (by omega)
   exact (btr HB.out B1.out).trans ((below_of_grown e1 (by omega) (by omega)).trans (below_of_grown e2 (by omega) (by omega)))
  | some ad =>
   have HSRC:Hid (∀ j u,(G.map (Value.int .i64))[j]?=some u→(wr.alloc (.cells #[] 3)).cell? (ad.add j)=some u):=(HIS.out.later (btr HB.out (bpush (bre _) _))).all;have ca:=(A6.out.later (bpush (bre wr) (.cells #[] 3))).cells;clear co
   go_wp2_with (at_builtin;refine wpList_append_own _ rfl (.tmp 26) (.tmp 28) 25 rfl wr.heap.size 3 i0 _ 1 8 Tryz.underlying25 hi0 hz0 hz1 hz2 rfl (by decide) _ 0 [] (by rfl) (ownI_empty wr _ (Nat.le_refl _)) ad gn gc (G.map (Value.int .i64)) (by rfl) (by rw [List.length_map,HGL.out,Nat.mul_one]) HSRC.out (int_one G) (by have:=HGN.out;unfold maxLen;omega) (by have:=HGN.out;omega) (by simp) ?_;intro v1 w1 hown1 hg1 _;have own1:OwI w1 wr.heap.size v1 G:=(by simpa [OwI,HGL.out] using hown1);obtain ⟨ag,cg,hvg,_⟩:=own1.shape;rw [HGL.out] at hvg;subst hvg;have b1:Below wr.heap.size wr w1:=(bpush (bre wr) _).grown hg1 (by simp) (by intro k hk;simp [Value.ownBlock] at hk;omega);have x1:=AX.out.later b1;have r1:=RX.out.later b1;have k2:=x1.cells;have f2:=x1.loose;have k1:=r1.cells;have f1:=r1.loose;have X1:=hid x1;have R1:=hid r1;have B1:=hid b1;have O1:=hid own1;clear x1 r1 b1 own1 hown1 hg1)
   have k2:=X1.out.s6 (.slice (ag) gn cg);have e1:w1.grownBy (w1.setCell ⟨w.heap.size+1+1,6,none⟩ (.slice (ag) gn cg)) (some (w.heap.size+1+1)):=wst (wre _ _) _ _;have k1:=R1.out.grown e1 (fun e=>by simp only [Option.some.injEq] at e;omega);have e2:=set7_grown (w1.setCell ⟨w.heap.size+1+1,6,none⟩ (.slice (ag) gn cg)) (w.heap.size+1) g nm t b nx (.slice va Z.length vc) (.slice (ag) gn cg);have d1:=(k1.set7 g nm t b nx (.slice va Z.length vc) (.slice (ag) gn cg)).cells;unfold set7 at d1 e2;have HD:=Dj.later HOZ.out.row O1.out (Nat.le_refl _);have HEE:=fun z hz=>Dj.later (HOZ.out.each z hz) O1.out (Nat.le_refl _);have h1:=HBW.out;have h2:=HB.out.size;have h3:=B1.out.size;have h4:=e1.size;refine bodyPost_ret (v:=.agg #[.int .i64 g,.string nm,.int .i64 t,.int .i64 b,.int .i64 nx,.slice va Z.length vc,.slice (ag) gn cg]) (by simp [results,Tryz.results93,go_sem,d1]) rfl ⟨_,_,rfl,⟨Z,HE.out,?_,?_,HD,HEE⟩,?_⟩
   ·exact (((HOZ.out.later B1.out).grown e1 (by omega)).grown e2 (by omega)).base (by omega)
   ·exact own_base (OwI.grown (OwI.grown O1.out e1 (by omega)) e2 (by omega)) (by omega)
   exact (btr HB.out B1.out).trans ((below_of_grown e1 (by omega) (by omega)).trans (below_of_grown e2 (by omega) (by omega)))
def Upr (L:List M4):Prop:=L.Pairwise fun x y=>x.2.1<y.2.1
theorem OwZ.far2 {W W':World} {B k:Nat} {v:Value} {Z:List Z5} (h:OwZ W B v Z) (hg:W.grownBy W' (some k)) (hr:∀ j,v.ownBlock=some j→j≠k) (he:∀ z∈Z,∀ j,z.2.2.1.ownBlock=some j→j≠k):OwZ W' B v Z :=
 h.kept hg.size (fun j hj=>hg.block j (h.row.lt j hj).2 (fun e=>hr j hj (by simpa using e))) (fun z hz j hj=>hg.block j ((h.each z hz).lt j hj).2 (fun e=>he z hz j hj (by simpa using e)))
abbrev X7:=Int×ByteArray×Int×Int×Int×List M4×List Int
structure Y9 where
 g:Int
 nm:ByteArray
 t:Int
 b:Int
 nx:Int
 mv:Value
 gv:Value
 L:List M4
 G:List Int
 lo:Nat
 hi:Nat
def yd (y:Y9):X7:=(y.g,y.nm,y.t,y.b,y.nx,y.L,y.G)
def yc:List Y9→List Value
 | []=>[]
 | y::Y=>.int .i64 y.g::.string y.nm::.int .i64 y.t::.int .i64 y.b::.int .i64 y.nx::y.mv::y.gv::yc Y
theorem yc_len (Y:List Y9):(yc Y).length=Y.length*7:=by
 induction Y with
 | nil=>rfl
 | cons y Y ih=>simp only [yc,List.length_cons,ih];omega
theorem yc_app (Y X:List Y9):yc (Y++X)=yc Y++yc X:=by
 induction Y with
 | nil=>rfl
 | cons y Y ih=>simp only [List.cons_append,yc,ih]
theorem yc_at (Y:List Y9) (i:Nat) (h:i<Y.length) :
  (yc Y)[i*7]?=some (.int .i64 Y[i].g)∧(yc Y)[i*7+1]?=some (.string Y[i].nm)∧(yc Y)[i*7+2]?=some (.int .i64 Y[i].t)∧(yc Y)[i*7+3]?=some (.int .i64 Y[i].b)∧(yc Y)[i*7+4]?=some (.int .i64 Y[i].nx)∧(yc Y)[i*7+5]?=some Y[i].mv∧(yc Y)[i*7+6]?=some Y[i].gv:=by
 induction Y generalizing i with
 | nil=>simp at h
 | cons y Y ih =>
  cases i with
  | zero=>exact ⟨rfl,rfl,rfl,rfl,rfl,rfl,rfl⟩
  | succ i =>
   have h':i<Y.length:=by simpa using h
   have:=ih i h'
   have e:(i+1)*7=i*7+1+1+1+1+1+1+1:=by omega
   rw [e]
   simpa [yc] using this
theorem yc_set (Y:List Y9) (i:Nat) (y:Y9) (h:i<Y.length) :
  (((((((yc Y).set (i*7) (.int .i64 y.g)).set (i*7+1) (.string y.nm)).set (i*7+2) (.int .i64 y.t)).set (i*7+3) (.int .i64 y.b)).set (i*7+4) (.int .i64 y.nx)).set (i*7+5) y.mv).set (i*7+6) y.gv=yc (Y.set i y):=by
 induction Y generalizing i with
 | nil=>simp at h
 | cons x Y ih =>
  cases i with
  | zero=>rfl
  | succ i =>
   have h':i<Y.length:=by simpa using h
   have:=ih i h'
   have e:(i+1)*7=i*7+1+1+1+1+1+1+1:=by omega
   rw [e]
   simpa [yc] using this
def C7 (W:World) (k o:Nat) (g:Int) (nm:ByteArray) (t b nx:Int) (mv gv:Value):Prop:=W.cell? ⟨k,o,none⟩=some (.int .i64 g)∧W.cell? ⟨k,o+1,none⟩=some (.string nm)∧W.cell? ⟨k,o+2,none⟩=some (.int .i64 t)∧W.cell? ⟨k,o+3,none⟩=some (.int .i64 b)∧W.cell? ⟨k,o+4,none⟩=some (.int .i64 nx)∧W.cell? ⟨k,o+5,none⟩=some mv∧W.cell? ⟨k,o+6,none⟩=some gv
theorem C7.same {W W':World} {k o:Nat} {g:Int} {nm:ByteArray} {t b nx:Int} {mv gv:Value} (h:C7 W k o g nm t b nx mv gv) (e:W'.heap[k]?=W.heap[k]?):C7 W' k o g nm t b nx mv gv :=
 ⟨(cell_same (p:=⟨k,_,none⟩) e).trans h.1,(cell_same (p:=⟨k,_,none⟩) e).trans h.2.1,(cell_same (p:=⟨k,_,none⟩) e).trans h.2.2.1,(cell_same (p:=⟨k,_,none⟩) e).trans h.2.2.2.1,(cell_same (p:=⟨k,_,none⟩) e).trans h.2.2.2.2.1,(cell_same (p:=⟨k,_,none⟩) e).trans h.2.2.2.2.2.1,(cell_same (p:=⟨k,_,none⟩) e).trans h.2.2.2.2.2.2⟩
theorem C7.later {W W':World} {k o:Nat} {g:Int} {nm:ByteArray} {t b nx:Int} {mv gv:Value} (h:C7 W k o g nm t b nx mv gv) (hk:k<W.heap.size) (hb:Below W.heap.size W W'):C7 W' k o g nm t b nx mv gv:=h.same (hb.block k hk)
theorem Is.wid {lo hi lo' hi':Nat} {W:World} {a:Option Addr} {G:List Int} (h:Is lo hi W a G) (h1:lo'≤lo) (h2:hi≤hi') (h3:hi'≤W.heap.size):Is lo' hi' W a G:=by
 refine ⟨h3,fun i hi'=>?_⟩;obtain ⟨k,o,e1,e2,e3,e4⟩:=h.2 i hi';exact ⟨k,o,e1,by omega,by omega,e4⟩
def Bs (lo hi:Nat) (W:World) (a:Option Addr) (S:List X7):Prop :=
 hi≤W.heap.size∧∀ i (h:i<S.length),∃ k o ma mc ga gc,a=some ⟨k,o,none⟩∧lo≤k∧k<hi ∧
  C7 W k (o+i*7) S[i].1 S[i].2.1 S[i].2.2.1 S[i].2.2.2.1 S[i].2.2.2.2.1 (.slice ma S[i].2.2.2.2.2.1.length mc) (.slice ga S[i].2.2.2.2.2.2.length gc) ∧
  Ms lo hi W ma S[i].2.2.2.2.2.1∧Is lo hi W ga S[i].2.2.2.2.2.2∧(ma=none→mc=0)∧(ga=none→gc=0)
theorem Bs.same {lo hi:Nat} {W W':World} {a:Option Addr} {S:List X7} (h:Bs lo hi W a S) (hs:hi≤W'.heap.size) (hk:∀ k,lo≤k→k<hi→W'.heap[k]?=W.heap[k]?):Bs lo hi W' a S:=by
 refine ⟨hs,fun i hi'=>?_⟩;obtain ⟨k,o,ma,mc,ga,gc,h1,h2,h3,c,hm,hg,h4,h5⟩:=h.2 i hi';exact ⟨k,o,ma,mc,ga,gc,h1,h2,h3,c.same (hk k h2 h3),hm.same hs hk,hg.same hs hk,h4,h5⟩
theorem Bs.later {lo hi:Nat} {W W':World} {a:Option Addr} {S:List X7} (h:Bs lo hi W a S) (hb:Below W.heap.size W W'):Bs lo hi W' a S :=
 h.same (Nat.le_trans h.1 hb.size) (fun k _ hk=>hb.block k (Nat.lt_of_lt_of_le hk h.1))
theorem Bs.wide {lo hi lo' hi':Nat} {W:World} {a:Option Addr} {S:List X7} (h:Bs lo hi W a S) (h1:lo'≤lo) (h2:hi≤hi') (h3:hi'≤W.heap.size):Bs lo' hi' W a S:=by
 refine ⟨h3,fun i hi''=>?_⟩;obtain ⟨k,o,ma,mc,ga,gc,e1,e2,e3,c,hm,hg,h4,h5⟩:=h.2 i hi'';exact ⟨k,o,ma,mc,ga,gc,e1,by omega,by omega,c,hm.wide h1 h2 h3,hg.wid h1 h2 h3,h4,h5⟩
theorem Bs.at {lo hi:Nat} {W:World} {a:Option Addr} {S:List X7} (h:Bs lo hi W a S) {i:Nat} (hi':i<S.length):∃ k o ma mc ga gc,a=some ⟨k,o,none⟩∧k<W.heap.size ∧
  C7 W k (o+i*7) S[i].1 S[i].2.1 S[i].2.2.1 S[i].2.2.2.1 S[i].2.2.2.2.1 (.slice ma S[i].2.2.2.2.2.1.length mc) (.slice ga S[i].2.2.2.2.2.2.length gc) ∧
  Ms lo hi W ma S[i].2.2.2.2.2.1∧Is lo hi W ga S[i].2.2.2.2.2.2∧(ma=none→mc=0)∧(ga=none→gc=0):=by
 obtain ⟨k,o,ma,mc,ga,gc,e1,e2,e3,c,hm,hg,h4,h5⟩:=h.2 i hi';exact ⟨k,o,ma,mc,ga,gc,e1,Nat.lt_of_lt_of_le e3 h.1,c,hm,hg,h4,h5⟩
structure OwX (W:World) (lo hi:Nat) (mv gv:Value) (L:List M4) (G:List Int):Prop where
 own:∃ Z,Z.map md=L∧OwZ W lo mv Z∧OwI W lo gv G∧Dj gv mv∧(∀ z∈Z,Dj gv z.2.2.1)∧(∀ j,mv.ownBlock=some j→j<hi)∧(∀ j,gv.ownBlock=some j→j<hi)∧∀ z∈Z,∀ j,z.2.2.1.ownBlock=some j→j<hi
 top:hi≤W.heap.size
theorem ow_at {W W':World} {B e size n:Nat} {x:Value} {xs:List Value} (ho:W.ownsRow B e size x n xs) (hk:∀ j,x.ownBlock=some j→W'.heap[j]?=W.heap[j]?):W'.ownsRow B e size x n xs:=by
 refine ⟨ho.1,ho.2.imp id ?_⟩;rintro ⟨g,cap,cur,h1,h2,h3,h4⟩;exact ⟨g,cap,cur,h1,h2,(hk g (by rw [h1];rfl)).trans h3,h4⟩
section
variable {W W':World} {lo hi:Nat} {mv gv:Value} {L:List M4} {G:List Int}
theorem OwX.same (h:OwX W lo hi mv gv L G) (hs:hi≤W'.heap.size) (hk:∀ k,lo≤k→k<hi→W'.heap[k]?=W.heap[k]?):OwX W' lo hi mv gv L G:=by
 obtain ⟨Z,h1,h2,h3,h4,h5,h6,h7,h8⟩:=h.own;refine ⟨⟨Z,h1,?_,?_,h4,h5,h6,h7,h8⟩,hs⟩
 ·refine ⟨ow_at h2.row (fun j hj=>hk j (h2.row.lt j hj).1 (h6 j hj)),fun z hz=>ow_at (h2.each z hz) (fun j hj=>hk j ((h2.each z hz).lt j hj).1 (h8 z hz j hj)),h2.off,h2.apart⟩
 exact ow_at h3 (fun j hj=>hk j (h3.lt j hj).1 (h7 j hj))
theorem OwX.later (h:OwX W lo hi mv gv L G) (hb:Below W.heap.size W W'):OwX W' lo hi mv gv L G :=
 h.same (Nat.le_trans h.top hb.size) (fun k _ hk=>hb.block k (Nat.lt_of_lt_of_le hk h.top))
theorem OwB.owx (h:OwB W lo mv gv L G):OwX W lo W.heap.size mv gv L G:=by
 obtain ⟨Z,h1,h2,h3,h4,h5⟩:=h;exact ⟨⟨Z,h1,h2,h3,h4,h5,fun j hj=>(h2.row.lt j hj).2,fun j hj=>(h3.lt j hj).2,fun z hz j hj=>((h2.each z hz).lt j hj).2⟩,Nat.le_refl _⟩
theorem OwX.reads (h:OwX W lo hi mv gv L G):∃ a c a' c',mv=.slice a L.length c∧gv=.slice a' G.length c'∧Ms lo hi W a L∧Is lo hi W a' G∧(a=none→c=0)∧(a'=none→c'=0):=by
 obtain ⟨Z,h1,h2,h3,h4,h5,h6,h7,h8⟩:=h.own;obtain ⟨a,c,rfl⟩:=h2.shape;obtain ⟨a',c',rfl,_⟩:=h3.shape;have hm:=h2.ms;have hi':=OwI.is h3
 have hlen:Z.length=L.length:=by rw [← h1,List.length_map]
 have hnone:∀ {n c m e size:Nat} {a:Option Addr} {xs:List Value},W.ownsRow lo e size (.slice a n c) m xs→a=none→c=0:=by
  intro n c m e size a xs ho ha;subst ha
  rcases ho.2 with ⟨h1,_⟩ | ⟨g,cap,cur,h1,_⟩
  ·simpa using congrArg (fun v=>match v with | .slice _ _ c=>c | _=>0) h1
  simp at h1
 refine ⟨a,c,a',c',by rw [hlen],rfl,?_,?_,hnone h2.row,hnone h3⟩
 ·rw [h1] at hm
  refine ⟨h.top,fun i hi''=>?_⟩;obtain ⟨k,o,fa,fc,e1,e2,e3,e4,e5,e6⟩:=hm.2.2 i hi'';subst e1;refine ⟨k,o,fa,fc,rfl,e2,h6 k rfl,e4,fun hn=>?_,e6⟩;obtain ⟨k',o',p1,p2,p3,p4⟩:=e5 hn;subst p1;refine ⟨k',o',rfl,p2,?_,p4⟩
  have hil:i<Z.length:=by omega
  have hz:=hm.2.1
  -- the flags' value of the i-th mail is this slice
  have hrow:=h2.row
  rcases h2.row.2 with ⟨q1,q2⟩ | ⟨g,cap,cur,q1,q2,q3,q4,q5,q6,q7⟩
  ·simp at q1
  simp only [Value.slice.injEq,Option.some.injEq,Addr.mk.injEq] at q1;obtain ⟨⟨rfl,rfl,_⟩,_,rfl⟩:=q1;have hc:=(hrow.cellAt (i*4+2) (by omega)).trans (zc_at Z i hil).2.2.1;have hc2:=e4.2.2.1;rw [show 0+i*4+2=i*4+2 by omega,hc] at hc2;simp only [Option.some.injEq] at hc2;exact h8 Z[i] (List.getElem_mem hil) k' (by rw [hc2];rfl)
 refine ⟨h.top,fun i hi''=>?_⟩;obtain ⟨k,o,e1,e2,e3,e4⟩:=hi'.2.2 i hi'';subst e1;exact ⟨k,o,rfl,e2,h7 k rfl,e4⟩
end
structure OwS (W:World) (B:Nat) (v:Value) (Y:List Y9):Prop where
 row:W.ownsRow B 38 7 v Y.length (yc Y)
 each:∀ y∈Y,OwX W y.lo y.hi y.mv y.gv y.L y.G∧B≤y.lo
 off:∀ y∈Y,∀ j,v.ownBlock=some j→j<y.lo∨y.hi≤j
 apart:Y.Pairwise fun x y=>x.hi≤y.lo∨y.hi≤x.lo
section
variable {W W':World} {B:Nat} {v:Value} {Y:List Y9}
theorem OwS.kept (h:OwS W B v Y) (hs:W.heap.size≤W'.heap.size) (hr:∀ j,v.ownBlock=some j→W'.heap[j]?=W.heap[j]?) (he:∀ y∈Y,∀ j,y.lo≤j→j<y.hi→W'.heap[j]?=W.heap[j]?):OwS W' B v Y :=
 ⟨ow_at h.row hr,fun y hy=>⟨(h.each y hy).1.same (Nat.le_trans (h.each y hy).1.top hs) (he y hy),(h.each y hy).2⟩,h.off,h.apart⟩
theorem OwS.later (h:OwS W B v Y) (hb:Below W.heap.size W W'):OwS W' B v Y :=
 h.kept hb.size (fun j hj=>hb.block j (h.row.lt j hj).2) (fun y hy j _ hj=>hb.block j (Nat.lt_of_lt_of_le hj (h.each y hy).1.top))
theorem OwS.base {B':Nat} (h:OwS W B' v Y) (hB:B≤B'):OwS W B v Y :=
 ⟨own_base h.row hB,fun y hy=>⟨(h.each y hy).1,Nat.le_trans hB (h.each y hy).2⟩,h.off,h.apart⟩
theorem OwS.grown {k:Nat} (h:OwS W B v Y) (hg:W.grownBy W' (some k)) (hk:k<B):OwS W' B v Y :=
 h.kept hg.size (fun j hj=>hg.block j (h.row.lt j hj).2 (fun e=>by have:=(h.row.lt j hj).1;simp at e;omega)) (fun y hy j h1 h2=>hg.block j (Nat.lt_of_lt_of_le h2 (h.each y hy).1.top) (fun e=>by have:=(h.each y hy).2;simp at e;omega))
theorem OwS.shape (h:OwS W B v Y):∃ a c,v=.slice a Y.length c:=by
 rcases h.row.2 with ⟨h1,h2⟩ | ⟨g,cap,cur,h1,_⟩
 ·exact ⟨none,0,by rw [h1,h2]⟩
 exact ⟨_,_,h1⟩
theorem OwS.nil0 {n c:Nat} {a:Option Addr} (h:OwS W B (.slice a n c) Y):a=none→c=0:=by
 intro ha;subst ha
 rcases h.row.2 with ⟨h1,_⟩ | ⟨g,cap,cur,h1,_⟩
 ·simpa using congrArg (fun v=>match v with | .slice _ _ c=>c | _=>0) h1
 simp at h1
theorem OwS.bs {n c:Nat} {a:Option Addr} (h:OwS W B (.slice a n c) Y):n=Y.length∧Bs B W.heap.size W a (Y.map yd):=by
 have hw:=h.row
 rcases h.row.2 with ⟨h1,h2⟩ | ⟨g,cap,cur,h1,h2,h3,h4,h5,h6,h7⟩
 ·simp only [Value.slice.injEq] at h1
  refine ⟨by omega,Nat.le_refl _,fun i hi=>?_⟩;rw [List.length_map] at hi
  omega
 simp only [Value.slice.injEq] at h1;obtain ⟨rfl,rfl,rfl⟩:=h1;refine ⟨rfl,Nat.le_refl _,fun i hi=>?_⟩;rw [List.length_map] at hi;have e:=yc_at Y i hi;obtain ⟨hx,hlo⟩:=h.each Y[i] (List.getElem_mem hi);obtain ⟨ma,mc,ga,gc,e1,e2,e3,e4,e5,e6⟩:=hx.reads;rw [e1,e2] at e;refine ⟨g,0,ma,mc,ga,gc,rfl,h2,(Array.getElem?_eq_some_iff.1 h3).1,?_,?_,?_,e5,e6⟩
 ·simp only [Nat.zero_add,List.getElem_map,yd]
  exact ⟨(hw.cellAt _ (by omega)).trans e.1,(hw.cellAt _ (by omega)).trans e.2.1,(hw.cellAt _ (by omega)).trans e.2.2.1,(hw.cellAt _ (by omega)).trans e.2.2.2.1,(hw.cellAt _ (by omega)).trans e.2.2.2.2.1,(hw.cellAt _ (by omega)).trans e.2.2.2.2.2.1,(hw.cellAt _ (by omega)).trans e.2.2.2.2.2.2⟩
 ·simpa [yd] using e3.wide hlo hx.top (Nat.le_refl _)
 simpa [yd] using e4.wid hlo hx.top (Nat.le_refl _)
theorem OwS.spot {g n c:Nat} (h:OwS W B (.slice (some ⟨g,0,none⟩) n c) Y) (i:Nat) (hi:i<Y.length) :
  C7 W g (i*7) Y[i].g Y[i].nm Y[i].t Y[i].b Y[i].nx Y[i].mv Y[i].gv∧∀ j,W.frozen? ⟨g,j,none⟩=false:=by
 obtain rfl:=h.bs.1;have hw:=h.row;have e:=yc_at Y i hi;exact ⟨⟨(hw.cellAt _ (by omega)).trans e.1,(hw.cellAt _ (by omega)).trans e.2.1,(hw.cellAt _ (by omega)).trans e.2.2.1,(hw.cellAt _ (by omega)).trans e.2.2.2.1,(hw.cellAt _ (by omega)).trans e.2.2.2.2.1,(hw.cellAt _ (by omega)).trans e.2.2.2.2.2.1,(hw.cellAt _ (by omega)).trans e.2.2.2.2.2.2⟩,fun j=>hw.frozenAt _⟩
end
def put7 (W:World) (g o:Nat) (y:Y9):World :=
 ((((((W.setCell ⟨g,o,none⟩ (.int .i64 y.g)).setCell ⟨g,o+1,none⟩ (.string y.nm)).setCell ⟨g,o+2,none⟩ (.int .i64 y.t)).setCell ⟨g,o+3,none⟩ (.int .i64 y.b)).setCell ⟨g,o+4,none⟩ (.int .i64 y.nx)).setCell ⟨g,o+5,none⟩ y.mv).setCell ⟨g,o+6,none⟩ y.gv
theorem put7_grown (W:World) (g o:Nat) (y:Y9):W.grownBy (put7 W g o y) (some g):=wst (wst (wst (wst (wst (wst (wst (wre _ _) _ _) _ _) _ _) _ _) _ _) _ _) _ _
theorem OwS.stored {W:World} {B g n c:Nat} {Y:List Y9} (h:OwS W B (.slice (some ⟨g,0,none⟩) n c) Y) (i:Nat) (hi:i<Y.length) (y:Y9) (ho:OwX W y.lo y.hi y.mv y.gv y.L y.G) (hB:B≤y.lo) (hg:g<y.lo∨y.hi≤g) (hd:∀ x∈Y,x.hi≤y.lo∨y.hi≤x.lo) :
  OwS (put7 W g (i*7) y) B (.slice (some ⟨g,0,none⟩) n c) (Y.set i y):=by
 obtain rfl:=h.bs.1;have hgr:=put7_grown W g (i*7) y;have h1:=(World.ownsRow.stored h.row (i*7) (.int .i64 y.g)).1;have h2:=(World.ownsRow.stored h1 (i*7+1) (.string y.nm)).1;have h3:=(World.ownsRow.stored h2 (i*7+2) (.int .i64 y.t)).1;have h4:=(World.ownsRow.stored h3 (i*7+3) (.int .i64 y.b)).1;have h5:=(World.ownsRow.stored h4 (i*7+4) (.int .i64 y.nx)).1;have h6:=(World.ownsRow.stored h5 (i*7+5) y.mv).1;have h7:=(World.ownsRow.stored h6 (i*7+6) y.gv).1;rw [yc_set Y i y hi] at h7;have hkeep:∀ {lo hh:Nat} {mv gv:Value} {L:List M4} {G:List Int},OwX W lo hh mv gv L G→(g<lo∨hh≤g)→OwX (put7 W g (i*7) y) lo hh mv gv L G:=fun hx hf =>
  hx.same (Nat.le_trans hx.top hgr.size) (fun k k1 k2=>hgr.block k (Nat.lt_of_lt_of_le k2 hx.top) (fun e=>by simp only [Option.some.injEq] at e;omega))
 refine ⟨by simpa [put7] using h7,fun x hx=>?_,fun x hx j hj=>?_,pair_set h.apart i y (fun x hx=>(hd x hx).symm) (fun x hx=>hd x hx)⟩
 ·rcases mem_set hx with hx | rfl
  ·exact ⟨hkeep (h.each x hx).1 (h.off x hx g rfl),(h.each x hx).2⟩
  exact ⟨hkeep ho hg,hB⟩
 rcases mem_set hx with hx | rfl
 ·exact h.off x hx j hj
 have:j=g:=by
  have e:(some g:Option Nat)=some j:=hj
  simpa using e.symm
 subst this;exact hg
theorem OwS.snoc {w w':World} {B:Nat} {v v':Value} {Y:List Y9} (hown:OwS w B v Y) (y:Y9) (ho:OwX w y.lo y.hi y.mv y.gv y.L y.G) (hB:B≤y.lo) (hv:∀ j,v.ownBlock=some j→j<y.lo∨y.hi≤j) (hd:∀ x∈Y,x.hi≤y.lo∨y.hi≤x.lo) (o:Obj)
  (hrow:w'.ownsRow B 38 7 v' (Y++[y]).length (yc (Y++[y]))) (hg:(w.alloc o).grownBy w' v.ownBlock) (hloc:∀ j,v'.ownBlock=some j→v.ownBlock=some j∨w.heap.size<j):OwS w' B v' (Y++[y]):=by
 have hsz:w.heap.size≤w'.heap.size:=by have:=hg.size;simp at this;omega
 have hkeep:∀ {x:Y9},OwX w x.lo x.hi x.mv x.gv x.L x.G→(∀ j,v.ownBlock=some j→j<x.lo∨x.hi≤j)→OwX w' x.lo x.hi x.mv x.gv x.L x.G:=fun hx hf =>
  hx.same (Nat.le_trans hx.top hsz) (fun k k1 k2=>(hg.block k (by have:=hx.top;simp;omega) (fun e=>by have:=hf k e.symm;omega)).trans (Below.heap_alloc w o k (Nat.lt_of_lt_of_le k2 hx.top)))
 refine ⟨hrow,fun x hx=>?_,fun x hx j hj=>?_,?_⟩
 ·rcases List.mem_append.1 hx with hx | hx
  ·exact ⟨hkeep (hown.each x hx).1 (hown.off x hx),(hown.each x hx).2⟩
  simp only [List.mem_cons,List.not_mem_nil,or_false] at hx;subst hx;exact ⟨hkeep ho hv,hB⟩
 ·have htop:x.hi≤w.heap.size:=by
   rcases List.mem_append.1 hx with hx | hx
   ·exact (hown.each x hx).1.top
   simp only [List.mem_cons,List.not_mem_nil,or_false] at hx;subst hx;exact ho.top
  rcases hloc j hj with h | h
  ·rcases List.mem_append.1 hx with hx | hx
   ·exact hown.off x hx j h
   simp only [List.mem_cons,List.not_mem_nil,or_false] at hx;subst hx;exact hv j h
  exact .inr (by omega)
 rw [List.pairwise_append];refine ⟨hown.apart,List.pairwise_singleton _ _,fun x hx z hz=>?_⟩;simp only [List.mem_cons,List.not_mem_nil,or_false] at hz;subst hz;exact hd x hx
theorem ownS_empty (W:World) (B:Nat) (hB:B≤W.heap.size):OwS (W.alloc (.cells #[] 38)) B (.slice (some ⟨W.heap.size,0,none⟩) 0 0) [] :=
 ⟨World.ownsRow_lit (base:=B) (e:=38) (size:=7) W #[] 0 hB (by unfold maxLen;omega) rfl,(fun z hz=>by cases hz),(fun z hz=>by cases hz),List.Pairwise.nil⟩
theorem info_bx:(Tryz.prog.info? 38).map (fun i=>(i.zero,i.size,i.bytes))=some (some (.agg #[.int .i64 0,.string ⟨#[]⟩,.int .i64 0,.int .i64 0,.int .i64 0,.slice none 0 0,.slice none 0 0]),7,96):=by kernel_rfl
theorem cells_new7 (w:World) (y:Y9) (e:Nat):∀ j u,(yc [y])[j]?=some u→(w.alloc (.cells #[.int .i64 y.g,.string y.nm,.int .i64 y.t,.int .i64 y.b,.int .i64 y.nx,y.mv,y.gv] e)).cell? ((⟨w.heap.size,0,none⟩:Addr).add j)=some u:=by
 intro j u hj;have hh:=heap_alloc_new w (.cells #[.int .i64 y.g,.string y.nm,.int .i64 y.t,.int .i64 y.b,.int .i64 y.nx,y.mv,y.gv] e)
 have hlt:j<7:=by
  have:=(List.getElem?_eq_some_iff.1 hj).1;rw [yc_len] at this
  simpa using this
 have h2:j=0∨j=1∨j=2∨j=3∨j=4∨j=5∨j=6:=by omega
 rcases h2 with rfl | rfl | rfl | rfl | rfl | rfl | rfl <;> simp only [yc,List.getElem?_cons_zero,List.getElem?_cons_succ,Option.some.injEq] at hj <;> subst hj
 ·exact cell_of_row _ _ 0 _ _ _ hh
 ·exact cell_of_row _ _ 1 _ _ _ hh
 ·exact cell_of_row _ _ 2 _ _ _ hh
 ·exact cell_of_row _ _ 3 _ _ _ hh
 ·exact cell_of_row _ _ 4 _ _ _ hh
 ·exact cell_of_row _ _ 5 _ _ _ hh
 exact cell_of_row _ _ 6 _ _ _ hh
def Sx (W:World) (k ty:Nat) (y tm:Int) (bv gv:Value):Prop:=W.heap[k]?=some (.cells #[.int .i64 y,.int .i64 tm,bv,gv] ty (0,0))
theorem Sx.new (w:World) (ty:Nat) (y tm:Int) (bv gv:Value):Sx (w.alloc (.cells #[.int .i64 y,.int .i64 tm,bv,gv] ty)) w.heap.size ty y tm bv gv:=heap_alloc_new w _
section
variable {W W':World} {k ty:Nat} {y tm:Int} {bv gv:Value}
theorem Sx.lt (h:Sx W k ty y tm bv gv):k<W.heap.size:=(Array.getElem?_eq_some_iff.1 h).1
theorem Sx.later (h:Sx W k ty y tm bv gv) (hb:Below W.heap.size W W'):Sx W' k ty y tm bv gv:=(hb.block k h.lt).trans h
theorem Sx.grown {r:Option Nat} (h:Sx W k ty y tm bv gv) (hg:W.grownBy W' r) (hk:some k≠r):Sx W' k ty y tm bv gv:=(hg.block k h.lt hk).trans h
theorem Sx.off {c:Nat} (h:Sx W k ty y tm bv gv) (hg:W.grownBy W' (some c)) (hk:k≠c):Sx W' k ty y tm bv gv:=h.grown hg (fun e=>by simp only [Option.some.injEq] at e;omega)
theorem Sx.cells (h:Sx W k ty y tm bv gv):W.cell? ⟨k,0,none⟩=some (.int .i64 y)∧W.cell? ⟨k,1,none⟩=some (.int .i64 tm)∧W.cell? ⟨k,2,none⟩=some bv∧W.cell? ⟨k,3,none⟩=some gv :=
 ⟨cell_of_row W k 0 _ _ _ h,cell_of_row W k 1 _ _ _ h,cell_of_row W k 2 _ _ _ h,cell_of_row W k 3 _ _ _ h⟩
theorem Sx.loose (h:Sx W k ty y tm bv gv):W.frozen? ⟨k,0,none⟩=false∧W.frozen? ⟨k,1,none⟩=false∧W.frozen? ⟨k,2,none⟩=false∧W.frozen? ⟨k,3,none⟩=false :=
 ⟨frozen_of_row W k 0 _ _ h,frozen_of_row W k 1 _ _ h,frozen_of_row W k 2 _ _ h,frozen_of_row W k 3 _ _ h⟩
theorem Sx.s0 (h:Sx W k ty y tm bv gv) (x:Int):Sx (W.setCell ⟨k,0,none⟩ (.int .i64 x)) k ty x tm bv gv:=heap_setCell_same W k 0 _ _ (.int .i64 x) h
theorem Sx.s1 (h:Sx W k ty y tm bv gv) (x:Int):Sx (W.setCell ⟨k,1,none⟩ (.int .i64 x)) k ty y x bv gv:=heap_setCell_same W k 1 _ _ (.int .i64 x) h
theorem Sx.s2 (h:Sx W k ty y tm bv gv) (x:Value):Sx (W.setCell ⟨k,2,none⟩ x) k ty y tm x gv:=heap_setCell_same W k 2 _ _ x h
theorem Sx.s3 (h:Sx W k ty y tm bv gv) (x:Value):Sx (W.setCell ⟨k,3,none⟩ x) k ty y tm bv x:=heap_setCell_same W k 3 _ _ x h
end
def put4 (W:World) (k:Nat) (y tm:Int) (bv gv:Value):World :=
 (((W.setCell ⟨k,0,none⟩ (.int .i64 y)).setCell ⟨k,1,none⟩ (.int .i64 tm)).setCell ⟨k,2,none⟩ bv).setCell ⟨k,3,none⟩ gv
theorem put4_grown (W:World) (k:Nat) (y tm:Int) (bv gv:Value):W.grownBy (put4 W k y tm bv gv) (some k):=wst (wst (wst (wst (wre _ _) _ _) _ _) _ _) _ _
theorem Sx.put4 {W:World} {k ty:Nat} {y tm:Int} {bv gv:Value} (h:Sx W k ty y tm bv gv) (y' tm':Int) (bv' gv':Value):Sx (Go.Proofs.YtdkedgedkgabnaaGreatDoor.put4 W k y' tm' bv' gv') k ty y' tm' bv' gv' :=
 (((h.s0 y').s1 tm').s2 bv').s3 gv'
structure OwT (W:World) (B:Nat) (bv gv:Value) (S:List X7) (G:List Int):Prop where
 own:∃ Y,Y.map yd=S∧OwS W B bv Y∧OwI W B gv G∧Dj gv bv∧∀ y∈Y,∀ j,gv.ownBlock=some j→j<y.lo∨y.hi≤j
theorem OwT.later {W W':World} {B:Nat} {bv gv:Value} {S:List X7} {G:List Int} (h:OwT W B bv gv S G) (hb:Below W.heap.size W W'):OwT W' B bv gv S G:=by
 obtain ⟨Y,h1,h2,h3,h4,h5⟩:=h.own;exact ⟨Y,h1,h2.later hb,own_later h3 hb,h4,h5⟩
theorem OwT.base {W:World} {B B':Nat} {bv gv:Value} {S:List X7} {G:List Int} (h:OwT W B' bv gv S G) (hB:B≤B'):OwT W B bv gv S G:=by
 obtain ⟨Y,h1,h2,h3,h4,h5⟩:=h.own;exact ⟨Y,h1,h2.base hB,own_base h3 hB,h4,h5⟩
theorem OwT.grown {W W':World} {B k:Nat} {bv gv:Value} {S:List X7} {G:List Int} (h:OwT W B bv gv S G) (hg:W.grownBy W' (some k)) (hk:k<B):OwT W' B bv gv S G:=by
 obtain ⟨Y,h1,h2,h3,h4,h5⟩:=h.own;exact ⟨Y,h1,h2.grown hg hk,OwI.grown h3 hg hk,h4,h5⟩
theorem OwT.reads {W:World} {B n c n' c':Nat} {a a':Option Addr} {S:List X7} {G:List Int} (h:OwT W B (.slice a n c) (.slice a' n' c') S G):n=S.length∧n'=G.length∧Bs B W.heap.size W a S∧Is B W.heap.size W a' G:=by
 obtain ⟨Y,rfl,h2,h3,_⟩:=h.own;exact ⟨by rw [List.length_map];exact h2.bs.1,(OwI.is h3).1,h2.bs.2,(OwI.is h3).2⟩
theorem OwT.shape {W:World} {B:Nat} {bv gv:Value} {S:List X7} {G:List Int} (h:OwT W B bv gv S G):∃ a c a' c',bv=.slice a S.length c∧gv=.slice a' G.length c':=by
 obtain ⟨Y,rfl,h2,h3,_⟩:=h.own;obtain ⟨a,c,hv⟩:=h2.shape;obtain ⟨a',c',hv',_⟩:=h3.shape;exact ⟨a,c,a',c',by rw [List.length_map];exact hv,hv'⟩
end Go.Proofs.YtdkedgedkgabnaaGreatDoor
