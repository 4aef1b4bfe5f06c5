/- Tid, Tie, Tif, Tig, Tih, Tij, Tim, Tin, Tip, Tiq, Tir. -/
import Derived.Test.YtdkedgedkgabnaaGreatDoorX18
namespace Go.Proofs.YtdkedgedkgabnaaGreatDoor
open Go.RowKit Go.ChangeMaps
set_option maxHeartbeats 16000000
set_option maxRecDepth 100000
theorem compact_len (zs:List Int):(Go.Lib.compact zs).length=zs.length↔∀ j,j<zs.length→Go.Lib.keeps zs.toArray j=true:=by
 unfold Go.Lib.compact Go.Lib.compactUpTo;rw [List.length_map]
 constructor
 ·intro h
  have h2:((List.range zs.length).filter (Go.Lib.keeps zs.toArray)).length=(List.range zs.length).length:=by rw [h,List.length_range]
  have h3:=List.length_filter_eq_length_iff.1 h2;intro j hj;exact h3 j (List.mem_range.2 hj)
 intro h;have h3:=(List.length_filter_eq_length_iff (l:=List.range zs.length) (p:=Go.Lib.keeps zs.toArray)).2 (fun j hj=>h j (List.mem_range.1 hj));rw [h3,List.length_range]
theorem sorted_keeps {zs:List Int} (hs:zs.Pairwise (fun a b=>a≤b)):(∀ j,j<zs.length→Go.Lib.keeps zs.toArray j=true)↔zs.Nodup:=by
 constructor
 ·intro h
  have h1:zs.Pairwise (fun a b=>a<b):=by
   rw [List.pairwise_iff_getElem] at hs ⊢;intro i j hi hj hij
   have e:∀ k,k<zs.length→0<k→zs[k - 1]!<zs[k]!:=by
    intro k hk h0;have h2:=h k hk;unfold Go.Lib.keeps at h2;simp only [decide_eq_true_eq] at h2
    rcases h2 with h2 | h2
    ·omega
    have h3:=hs (k - 1) k (by omega) hk (by omega)
    have e1:zs.toArray[k]! = zs[k]!:=by simp
    have e2:zs.toArray[k-1]! = zs[k-1]!:=by simp
    rw [e1,e2] at h2
    have e3:zs[k]! = zs[k]:=by simp [hk]
    have e4:zs[k-1]! = zs[k-1]:=by simp [show k - 1<zs.length by omega]
    rw [e3,e4] at h2 ⊢
    omega
   have h3:=e j hj (by omega)
   have e3:zs[j]! = zs[j]:=by simp [hj]
   have e4:zs[j-1]! = zs[j-1]:=by simp [show j - 1<zs.length by omega]
   rw [e3,e4] at h3
   by_cases hjj:i=j - 1
   ·subst hjj;exact h3
   have:=hs i (j - 1) hi (by omega) (by omega)
   omega
  exact h1.imp (fun h=>by omega)
 intro hn j hj;unfold Go.Lib.keeps;simp only [decide_eq_true_eq]
 by_cases h0:j=0
 ·exact .inl h0
 right
 intro e
 have e1:zs.toArray[j]! = zs[j]:=by simp [hj]
 have e2:zs.toArray[j-1]! = zs[j-1]:=by simp [show j - 1<zs.length by omega]
 rw [e1,e2] at e;exact (List.pairwise_iff_getElem.1 hn (j - 1) j (by omega) hj (by omega)) e.symm
theorem sort_pairs (zs:List Int):(zs.mergeSort fun x y=>decide (x≤y)).Pairwise (fun a b=>a≤b):=by
 have:=List.pairwise_mergeSort (le:=fun x y:Int=>decide (x≤y)) (fun a b c=>by simp;omega) (fun a b=>by simp;omega) zs;exact this.imp (fun h=>by simpa using h)
theorem compact_sort (zs:List Int):decide (((Go.Lib.compact (zs.mergeSort fun x y=>decide (x≤y))).length:Int)=(zs.length:Int))=decide zs.Nodup:=by
 have hp:=List.mergeSort_perm zs (fun x y:Int=>decide (x≤y));have h1:=compact_len (zs.mergeSort fun x y=>decide (x≤y));rw [sorted_keeps (sort_pairs zs),hp.nodup_iff,hp.length_eq] at h1
 by_cases h:zs.Nodup
 ·have:=h1.2 h
  simp [h,this]
 have h2:=mt h1.1 h;simp only [h,decide_false];simp only [decide_eq_false_iff_not]
 omega
theorem sortI_any (B:Nat) (v:Value) (zs:List Int) (w:World) (hown:OwI w B v zs) (hl:zs.length≤1048576) :
  Calls Tryz.prog 121 #[v] w fun e w'=>e=.returned (.tuple #[])∧OwI w' B v (zs.mergeSort fun x y=>decide (x≤y))∧w.grownBy w' v.ownBlock:=by
 rcases hown.2 with ⟨rfl,h2⟩ | ⟨g,cap,cur,h1,h2,h3,h4,h5,h6,h7⟩
 ·obtain rfl:zs=[]:=List.eq_nil_of_length_eq_zero h2
  refine (Any.slices_Sort_int_none soLays none 0 w).mono ?_;rintro e w' ⟨rfl,rfl⟩;exact ⟨rfl,by simpa using hown,wre _ _⟩
 subst h1;have hH:=holds_of_blockI (ss:=zs) h3 (by simpa using h7);refine (Any.slices_Sort_int soLays g 0 cap zs w hH (Array.getElem?_eq_some_iff.1 h3).1 (by omega)).mono ?_;rintro e w' ⟨rfl,n,os,rfl⟩;have hlen:(zs.mergeSort fun x y=>decide (x≤y)).length=zs.length:=List.length_mergeSort zs;refine ⟨rfl,?_,grownBy_sortedI _⟩;have h8:=ownsRow_sortedI (n:=n) (os:=os) (e:=3) hlen h2 h3 h4 h5 h6;unfold OwI;rw [hlen];exact h8
theorem compactI_any (B:Nat) (v:Value) (zs:List Int) (w:World) (hown:OwI w B v zs) (hl:zs.length≤1048576) :
  Calls Tryz.prog 122 #[v] w fun e w'=>∃ a c,e=.returned (.slice a (Go.Lib.compact zs).length c)∧w.grownBy w' v.ownBlock:=by
 rcases hown.2 with ⟨rfl,h2⟩ | ⟨g,cap,cur,h1,h2,h3,h4,h5,h6,h7⟩
 ·obtain rfl:zs=[]:=List.eq_nil_of_length_eq_zero h2
  refine (Any.slices_Compact_int_empty coLays none 0 w).mono ?_;rintro e w' ⟨rfl,rfl⟩;exact ⟨none,0,rfl,wre _ _⟩
 subst h1;have hH:=holds_of_blockI (ss:=zs) h3 (by simpa using h7);refine (Any.slices_Compact_int coLays g 0 cap zs w hH (by omega) h4).mono ?_;rintro e w' ⟨rfl,q,rfl⟩;refine ⟨_,_,rfl,?_⟩;have h8:=grownBy_sortedI (w:=w) (g:=g) (n:=q) (os:=#[]) (Go.Lib.compact zs++List.replicate (zs.length - (Go.Lib.compact zs).length) 0).toArray;rw [Go.Sort.grow_empty] at h8;exact h8
theorem gids_le {S:List X7} {i k:Nat} {L:List M4} (h:i<S.length) (hL:S[i].2.2.2.2.2.1=L) (hk:k≤L.length):(gids (S.take i)++(L.take k).map (fun m=>m.1)).length≤(gids S).length:=by
 have e1:gids S=gids (S.take (i+1))++gids (S.drop (i+1)):=by
  unfold gids;rw [← List.flatMap_append,List.take_append_drop]
 rw [e1,gids_take h,hL];simp only [List.length_append,List.length_map,List.length_take]
 omega
theorem mailsUnlike_any (lo hi:Nat) (ba:Option Addr) (bn bc:Nat) (S:List X7) (w:World) (hl:S.length=bn) (hn:bn≤1048576) (hsb:Sb S) (hm:Bs lo hi w ba S) (hg:(gids S).length≤1048576) :
  Calls Tryz.prog 78 #[.slice ba bn bc] w fun e w'=>e=.returned (.bool (decide (gids S).Nodup))∧Below w.heap.size w w':=by
 have HL:=hid hl;have HN:=hid hn;have HSB:=hid hsb;have HR:=hid hm;have HG:=hid hg;clear hl hsb hm hg
 go_enter Tryz.func78,Tryz.ntmps78
 go_wp2
 go_loopw [3,10] (fun vv iv wr=>∃ (i:Nat),i≤bn∧iv=.int .i64 (i:Int)∧OwI wr w.heap.size vv (gids (S.take i))∧Below w.heap.size w wr) (fun _ iv _=>bn - (intOf iv).toNat)
 case atStart=>exact ⟨0,Nat.zero_le _,rfl,⟨rfl,.inl ⟨rfl,rfl⟩⟩,bre _⟩
 case round =>
  obtain ⟨i,hin,rfl,hown,hb⟩:=hrel;obtain ⟨vv,hvv⟩:∃ vv,vv=u3:=⟨_,rfl⟩;subst hvv;obtain ⟨wq,hwq⟩:∃ wq,wq=wr:=⟨_,rfl⟩;subst hwq;have HB:=hid hb;have HOW:=hid hown;have hbn:=HN.out;clear hb hown
  by_cases hlt:i<bn
  ·have hil:i<S.length:=by rw [HL.out];exact hlt
   obtain ⟨k,o,ma1,mc1,ga1,gc1,rfl,hk,d,hms,his,_⟩:=(HR.out.later HB.out).at hil;have hmem:=HSB.out S[i] (List.getElem_mem hil);obtain ⟨q,hq⟩:∃ q,S[i]=q:=⟨_,rfl⟩;obtain ⟨g1,nm1,t1,b1,nx1,L1,G1⟩:=q;rw [hq] at d hms hmem;dsimp only at d hms hmem
   have HQ:Hid (S[i].2.2.2.2.2.1=L1):=by show _=_;rw [hq]
   obtain ⟨m1,hm1⟩:∃ m1,L1.length=m1:=⟨_,rfl⟩;obtain ⟨n1,hn1⟩:∃ n1,G1.length=n1:=⟨_,rfl⟩;rw [hm1,hn1] at d hmem;have HM1:=hid hm1;have hml:=hmem.2.1;have AB:=Bx.new wq 38 g1 nm1 t1 b1 nx1 (.slice ma1 m1 mc1) (.slice ga1 n1 gc1);have BB:Below wq.heap.size wq (wq.alloc (.cells #[.int .i64 g1,.string nm1,.int .i64 t1,.int .i64 b1,.int .i64 nx1,.slice ma1 m1 mc1,.slice ga1 n1 gc1] 38)):=bpush (bre _) _;have cb:=AB.cells;have HMS:=hid (hms.later BB);have HOB:=hid (own_later HOW.out BB);have HBB:=hid (btr HB.out BB)
   have hI:(0:Int)≤(i:Int)∧(i:Int)<(bn:Int):=by omega
   unfold C7 at d;clear hq hms his hmem hm1 hn1 AB BB hk
   go_wp2
   obtain ⟨W1,hW1⟩:∃ W1,wq.alloc (.cells #[.int .i64 g1,.string nm1,.int .i64 t1,.int .i64 b1,.int .i64 nx1,.slice ma1 m1 mc1,.slice ga1 n1 gc1] 38)=W1:=⟨_,rfl⟩;rw [hW1] at HMS HOB HBB ⊢;clear hW1 d cb
   go_loopw [3,17] (fun vv2 kv wr=>∃ k2:Nat,k2≤m1∧kv=.int .i64 (k2:Int)∧OwI wr w.heap.size vv2 (gids (S.take i)++(L1.take k2).map (fun m=>m.1))∧Ms lo hi wr ma1 L1∧Below w.heap.size w wr) (fun _ kv _=>m1 - (intOf kv).toNat)
   case atStart=>exact ⟨0,Nat.zero_le _,rfl,by simpa using HOB.out,HMS.out,HBB.out⟩
   case round =>
    obtain ⟨k2,hk2,rfl,hown2,hms2,hb2⟩:=hrel;obtain ⟨v2,hv2⟩:∃ v2,v2=u3:=⟨_,rfl⟩;subst hv2;have HO2:=hid hown2;have HM2:=hid hms2;have HB2:=hid hb2;clear hown2 hms2 hb2
    by_cases hkt:k2<m1
    ·have hkl:k2<L1.length:=by rw [HM1.out];exact hkt
     obtain ⟨km,om,fa1,fc1,rfl,hkm,cm,_⟩:=HM2.out.at hkl;have HLE:=hid (Nat.le_trans (gids_le hil HQ.out (Nat.le_of_lt hkl)) HG.out);have HSN:=hid (map_take_snoc hkl);obtain ⟨x,hx⟩:∃ x,L1[k2]=x:=⟨_,rfl⟩;rw [hx] at cm HSN;obtain ⟨x1,x2,x3,x4⟩:=x;dsimp only at cm HSN;obtain ⟨n3,hn3⟩:∃ n3,x3.length=n3:=⟨_,rfl⟩;rw [hn3] at cm;have AM:=Mg.new wr 78 x1 x2 (.slice fa1 n3 fc1) x4;have BM:Below wr.heap.size wr (wr.alloc (.cells #[.int .i64 x1,.int .i64 x2,.slice fa1 n3 fc1,.string x4] 78)):=bpush (bre _) _;have cg:=AM.cells;have HO3:=hid (own_later HO2.out BM);have HM3:=hid (HM2.out.later BM);have HB3:=hid (btr HB2.out BM)
     have hK:(0:Int)≤(k2:Int)∧(k2:Int)<(m1:Int):=by omega
     have HSZ:Hid (w.heap.size≤(wr.alloc (.cells #[.int .i64 x1,.int .i64 x2,.slice fa1 n3 fc1,.string x4] 78)).heap.size):=Nat.le_trans HB2.out.size BM.size
     have HSE:Hid ((wr.alloc (.cells #[.int .i64 x1,.int .i64 x2,.slice fa1 n3 fc1,.string x4] 78)).heap.size=wr.heap.size+1):=by show _=_;simp
     clear hx hn3 AM BM hkm
     go_wp2_with (at_builtin;refine wpList_append_ik _ rfl (.tmp 21) (.tmp 24) rfl w.heap.size _ (gids (S.take i)++(L1.take k2).map (fun m=>m.1)) (by rfl) (by have h:=HO3.out;exact h) x1 (by rw [HSE.out];rfl) HLE.out HSZ.out ?_;intro v7 w7 hrow7 hg7 hl7;have O8:=hid hrow7;have BL8:Hid (Below w.heap.size w w7):=HB3.out.trans (((Below.refl _ _).alloc HSZ.out _).grown hg7 (by have:=HSZ.out;simp at this;simp;omega) (fun k hk=>(HO3.out.lt k hk).1));have M8:Hid (Ms lo hi w7 (some ⟨km,om,none⟩) L1):=(HM3.out.same (by have h1:=HM3.out.1;have h2:=hg7.size;simp at h1 h2;omega) (fun k _ hk=>(hg7.block k (by have h1:=HM3.out.1;simp at h1;simp;omega) (fun e=>by have h1:=(HO3.out.lt k e.symm).1;have h2:=HR.out.1;omega)).trans (Below.heap_alloc _ _ k (by have h1:=HM3.out.1;omega))));clear hrow7 hg7 hl7)
     go_roundw
     case rel=>exact ⟨k2+1,by omega,by go_num,by have h:=O8.out;rw [List.append_assoc,HSN.out] at h;exact h,M8.out,BL8.out⟩
     case measure=>simp [intOf];omega
    have HE:Hid (gids (S.take i)++(L1.take k2).map (fun m=>m.1)=gids (S.take (i+1))):=by
     show _=_
     rw [gids_take hil,HQ.out,List.take_of_length_le (l:=L1) (by rw [HM1.out];omega)]
    rw [HE.out] at HO2
    go_wp2
    go_roundw
    case rel=>exact ⟨i+1,by omega,by go_num,HO2.out,HB2.out⟩
    case measure=>simp [intOf];omega
  have HO:Hid (OwI wq w.heap.size vv (gids S)):=by
   have h:=HOW.out;rw [List.take_of_length_le (by rw [HL.out];omega)] at h;exact h
  obtain ⟨zs,hzs⟩:∃ zs,gids S=zs:=⟨_,rfl⟩;rw [hzs] at HO HG;have HZ:=hid hzs;clear hzs HOW
  go_wp2_with fail
  refine (sortI_any w.heap.size vv zs _ HO.out HG.out).mono ?_;rintro e w3 ⟨rfl,ho3,hg3⟩;have hlen:(zs.mergeSort fun x y=>decide (x≤y)).length=zs.length:=List.length_mergeSort zs;have hcs:=compact_sort zs;obtain ⟨ys,hys⟩:∃ ys,(zs.mergeSort fun x y=>decide (x≤y))=ys:=⟨_,rfl⟩;rw [hys] at ho3 hlen hcs;have HLE:=hid hlen;have HCS:=hid hcs;have HO3:=hid ho3;have HB3:Hid (Below w.heap.size w w3):=HB.out.trans ((Below.refl _ _).grown hg3 (HB.out.size) (fun k hk=>(HO.out.lt k hk).1));clear ho3 hg3 hlen hcs hys
  go_wp2_with fail
  refine (compactI_any w.heap.size vv ys _ HO3.out (by rw [HLE.out];exact HG.out)).mono ?_;rintro e w4 ⟨ca,cc,rfl,hg4⟩;have HB4:Hid (Below w.heap.size w w4):=HB3.out.trans ((Below.refl _ _).grown hg4 (HB3.out.size) (fun k hk=>(HO3.out.lt k hk).1));obtain ⟨cl,hcl⟩:∃ cl,(Go.Lib.compact ys).length=cl:=⟨_,rfl⟩;rw [hcl] at HCS ⊢;obtain ⟨a3,c3,hv3,_⟩:=OwI.shape HO3.out;subst hv3;obtain ⟨yl,hyl⟩:∃ yl,ys.length=yl:=⟨_,rfl⟩;rw [hyl] at HLE HO3 ⊢
  have HE:Hid (decide (gids S).Nodup=((cl:Int) == (yl:Int))):=by
   show _=_
   rw [HZ.out,← HCS.out,HLE.out]
   simp [BEq.beq]
  clear hg4 hcl hyl
  go_wp2
  go_ret
  exact ⟨by rw [HE.out];rfl,HB4.out⟩
theorem sOk_bk (y tm:Int) (S:List X7) (G:List Int):sOk y tm S G=((decide (1≤y)&&decide (y≤2))&&((decide (0≤tm)&&decide (tm≤100000))&&(gnM 20 G&&(bkOk tm G S&&decide (gids S).Nodup)))):=by
 unfold sOk bkOk
 cases gnM 20 G <;> cases decide ((S.length:Int)≤5) <;> simp
theorem bk_gids {tm:Int} {G:List Int} {S:List X7} (h:bkOk tm G S=true):(gids S).length≤50:=by
 unfold bkOk at h;simp only [Bool.and_eq_true,decide_eq_true_eq] at h;have h2:=List.all_eq_true.1 h.2;have h3:=gids_small (S:=S) (i:=S.length) (fun j hj hl=>h2 j (List.mem_range.2 hl)) (Nat.le_refl _);rw [List.take_length] at h3
 omega
theorem implStoreOk_any (lo hi lo' hi':Nat) (y tm:Int) (ba:Option Addr) (bn bc:Nat) (ga:Option Addr) (gn gc:Nat) (S:List X7) (G:List Int) (w:World) (hl:S.length=bn) (hn:bn≤1048576) (hsb:Sb S) (hm:Bs lo hi w ba S) (hgl:G.length=gn) (hgn:gn≤1048576) (hs:Is lo' hi' w ga G) :
  Calls Tryz.prog 28 #[.agg #[.int .i64 y,.int .i64 tm,.slice ba bn bc,.slice ga gn gc]] w fun e w'=>e=.returned (.bool (sOk y tm S G))∧Below w.heap.size w w':=by
 have HX:=hid (sOk_bk y tm S G);obtain ⟨W0,hW0⟩:∃ W0,w.alloc (.cells #[.int .i64 y,.int .i64 tm,.slice ba bn bc,.slice ga gn gc] 27)=W0:=⟨_,rfl⟩
 have a0:Sx W0 w.heap.size 27 y tm (.slice ba bn bc) (.slice ga gn gc):=by subst hW0;exact Sx.new w _ y tm _ _
 have b0:Below w.heap.size w W0:=by subst hW0;exact bpush (bre _) _
 obtain ⟨p6,hp6⟩:∃ p6,gnM 20 G=p6:=⟨_,rfl⟩;obtain ⟨p7,hp7⟩:∃ p7,bkOk tm G S=p7:=⟨_,rfl⟩;obtain ⟨p8,hp8⟩:∃ p8,decide (gids S).Nodup=p8:=⟨_,rfl⟩;rw [hp6,hp7,hp8] at HX;have HP6:=hid hp6;have HP7:=hid hp7;have HP8:=hid hp8;have c0:=a0.cells;have HL:=hid hl;have HN:=hid hn;have HSB:=hid hsb;have HR:=hid hm;have HGL:=hid hgl;have HGN:=hid hgn;have HIS:=hid hs;have A0:=hid a0;have B0:=hid b0;clear hl hn hsb hm hgl hgn hs a0 b0 hp6 hp7 hp8
 by_cases h1:1≤y
 case neg =>
  have HE:Hid (sOk y tm S G=false):=by show _=_;rw [HX.out];simp [h1]
  go_enter Tryz.func28,Tryz.ntmps28
  go_wp2
  go_ret
  exact ⟨by rw [HE.out];rfl,B0.out⟩
 by_cases h2:y≤2
 case neg =>
  have HE:Hid (sOk y tm S G=false):=by show _=_;rw [HX.out];simp [h2]
  go_enter Tryz.func28,Tryz.ntmps28
  go_wp2
  go_ret
  exact ⟨by rw [HE.out];rfl,B0.out⟩
 by_cases h3:0≤tm
 case neg =>
  have HE:Hid (sOk y tm S G=false):=by show _=_;rw [HX.out];simp [h3]
  go_enter Tryz.func28,Tryz.ntmps28
  go_wp2
  go_ret
  exact ⟨by rw [HE.out];rfl,B0.out⟩
 by_cases h4:tm≤100000
 case neg =>
  have HE:Hid (sOk y tm S G=false):=by show _=_;rw [HX.out];simp [h4]
  go_enter Tryz.func28,Tryz.ntmps28
  go_wp2
  go_ret
  exact ⟨by rw [HE.out];rfl,B0.out⟩
 have HX:Hid (sOk y tm S G=(p6&&(p7&&p8))):=by show _=_;rw [HX.out];simp [h1,h2,h3,h4]
 go_enter Tryz.func28,Tryz.ntmps28
 go_wp2_with fail
 clear hW0;refine (goneOkM_any 20 lo' hi' ga gn gc G _ HGL.out HGN.out (HIS.out.later B0.out)).mono ?_;rintro e w5 ⟨rfl,h5⟩;subst h5;rw [HP6.out]
 cases p6
 ·have HE:Hid (sOk y tm S G=false):=by show _=_;rw [HX.out];rfl
  go_wp2
  go_ret
  exact ⟨by rw [HE.out];rfl,B0.out⟩
 go_wp2_with fail
 refine (boxesOk_any lo hi lo' hi' y tm ba bn bc ga gn gc S G _ HL.out HN.out HSB.out (HR.out.later B0.out) HGL.out HGN.out (HIS.out.later B0.out)).mono ?_;rintro e w6 ⟨rfl,hb6⟩;rw [HP7.out];have A6:=hid (A0.out.later hb6);have B6:=hid (btr B0.out hb6);have c0:=A6.out.cells;clear hb6
 cases p7
 ·have HE:Hid (sOk y tm S G=false):=by show _=_;rw [HX.out];rfl
  go_wp2
  go_ret
  exact ⟨by rw [HE.out];rfl,B6.out⟩
 have HGI:=hid (bk_gids HP7.out)
 go_wp2_with fail
 refine (mailsUnlike_any lo hi ba bn bc S _ HL.out HN.out HSB.out (HR.out.later B6.out) (by have:=HGI.out;omega)).mono ?_;rintro e w7 ⟨rfl,hb7⟩;rw [HP8.out];have B7:=hid (btr B6.out hb7)
 have HE:Hid (sOk y tm S G=p8):=by show _=_;rw [HX.out];simp
 clear hb7 c0
 go_wp2
 go_ret
 exact ⟨by rw [HE.out];rfl,B7.out⟩
def Rdx (lo hh:Nat) (W:World) (x:Y9):Prop:=∃ a c a' c',x.mv=.slice a x.L.length c∧x.gv=.slice a' x.G.length c'∧Ms lo hh W a x.L∧Is lo hh W a' x.G∧(a=none→c=0)∧(a'=none→c'=0)
theorem Rdx.later {lo hh:Nat} {W W':World} {x:Y9} (h:Rdx lo hh W x) (hb:Below W.heap.size W W'):Rdx lo hh W' x:=by
 obtain ⟨a,c,a',c',h1,h2,h3,h4,h5⟩:=h;exact ⟨a,c,a',c',h1,h2,h3.later hb,h4.later hb,h5⟩
structure LsP (W:World) (B:Nat) (v:Value) (Y:List Y9):Prop where
 each:∀ y∈Y,OwX W y.lo y.hi y.mv y.gv y.L y.G∧B≤y.lo
 off:∀ y∈Y,∀ j,v.ownBlock=some j→j<y.lo∨y.hi≤j
 apart:Y.Pairwise fun x y=>x.hi≤y.lo∨y.hi≤x.lo
theorem LsP.nil (W:World) (B:Nat) (v:Value):LsP W B v []:=⟨(fun z hz=>by cases hz),(fun z hz=>by cases hz),List.Pairwise.nil⟩
theorem LsP.kept {W W':World} {B:Nat} {v:Value} {Y:List Y9} (h:LsP W B v Y) (hs:W.heap.size≤W'.heap.size) (he:∀ y∈Y,∀ j,y.lo≤j→j<y.hi→W'.heap[j]?=W.heap[j]?):LsP W' B v Y :=
 ⟨fun y hy=>⟨(h.each y hy).1.same (Nat.le_trans (h.each y hy).1.top hs) (he y hy),(h.each y hy).2⟩,h.off,h.apart⟩
theorem LsP.later {W W':World} {B:Nat} {v:Value} {Y:List Y9} (h:LsP W B v Y) (hb:Below W.heap.size W W'):LsP W' B v Y :=
 h.kept hb.size (fun y hy j _ hj=>hb.block j (Nat.lt_of_lt_of_le hj (h.each y hy).1.top))
theorem LsP.grown {W W':World} {B:Nat} {v:Value} {Y:List Y9} (h:LsP W B v Y) (hg:W.grownBy W' v.ownBlock):LsP W' B v Y :=
 h.kept hg.size (fun y hy j h1 h2=>hg.block j (Nat.lt_of_lt_of_le h2 (h.each y hy).1.top) (fun e=>by have:=h.off y hy j e.symm;omega))
theorem LsP.snoc {W:World} {B:Nat} {v:Value} {Y:List Y9} (h:LsP W B v Y) (y:Y9) (ho:OwX W y.lo y.hi y.mv y.gv y.L y.G) (hB:B≤y.lo) (hv:∀ j,v.ownBlock=some j→j<y.lo∨y.hi≤j) (hd:∀ x∈Y,x.hi≤y.lo∨y.hi≤x.lo):LsP W B v (Y++[y]):=by
 refine ⟨fun x hx=>?_,fun x hx=>?_,?_⟩
 ·rcases List.mem_append.1 hx with hx | hx
  ·exact h.each x hx
  simp only [List.mem_cons,List.not_mem_nil,or_false] at hx;subst hx;exact ⟨ho,hB⟩
 ·rcases List.mem_append.1 hx with hx | hx
  ·exact h.off x hx
  simp only [List.mem_cons,List.not_mem_nil,or_false] at hx;subst hx;exact hv
 rw [List.pairwise_append];refine ⟨h.apart,List.pairwise_singleton _ _,fun x hx z hz=>?_⟩;simp only [List.mem_cons,List.not_mem_nil,or_false] at hz;subst hz;exact hd x hx
theorem Sg.grown {W W':World} {k ty:Nat} {t b:Int} {r:Option Nat} (h:Sg W k ty t b) (hg:W.grownBy W' r) (hk:some k≠r):Sg W' k ty t b:=(hg.block k h.lt hk).trans h
theorem OwT.addr {W:World} {B n c i:Nat} {a:Option Addr} {gv:Value} {S:List X7} {G:List Int} (h:OwT W B (.slice a n c) gv S G) (hi:i<S.length):∃ g,a=some ⟨g,0,none⟩:=by
 obtain ⟨Y,rfl,h2,_⟩:=h.own
 rcases h2.row.2 with ⟨_,q⟩ | ⟨g,cap,cur,h1,_⟩
 ·rw [List.length_map] at hi;omega
 simp only [Value.slice.injEq] at h1;exact ⟨g,h1.1⟩
theorem OwT.put {W0 W:World} {B g n c:Nat} {gv:Value} {S:List X7} {G:List Int} (h:OwT W0 B (.slice (some ⟨g,0,none⟩) n c) gv S G) (hb:Below W0.heap.size W0 W) (i:Nat) (hi:i<S.length) (y:Y9) (ho:OwX W y.lo y.hi y.mv y.gv y.L y.G) (hB:B≤W0.heap.size) (hW:W0.heap.size≤y.lo) :
  OwT (put7 W g (i*7) y) B (.slice (some ⟨g,0,none⟩) n c) gv (S.set i (yd y)) G:=by
 obtain ⟨Y,h1,h2,h3,h4,h5⟩:=h.own
 have hlen:Y.length=S.length:=by rw [← h1,List.length_map]
 have hgr:=put7_grown W g (i*7) y;have k2:=h2.later hb;have k3:=own_later h3 hb;have hg:=(h2.row.lt g rfl).2;refine ⟨Y.set i y,?_,k2.stored i (by omega) y ho (by omega) (.inl (by omega)) (fun x hx=>.inl (Nat.le_trans (h2.each x hx).1.top hW)),?_,h4,fun z hz j hj=>?_⟩
 ·rw [← h1,List.map_set]
 ·exact World.ownsRow.kept k3 hgr (by
    cases hv:Value.ownBlock gv with
    | none=>exact Or.inl rfl
    | some j=>exact Or.inr (fun e=>by simp only [Option.some.injEq] at e;subst e;exact h4 _ hv rfl))
 rcases mem_set hz with hz | rfl
 ·exact h5 z hz j hj
 have:=(h3.lt j hj).2;exact .inl (by omega)
theorem OwT.cells {W:World} {B g n c:Nat} {gv:Value} {S:List X7} {G:List Int} (h:OwT W B (.slice (some ⟨g,0,none⟩) n c) gv S G) (i:Nat) (hi:i<S.length) :
  ∃ ma mc ga gc,C7 W g (i*7) S[i].1 S[i].2.1 S[i].2.2.1 S[i].2.2.2.1 S[i].2.2.2.2.1 (.slice ma S[i].2.2.2.2.2.1.length mc) (.slice ga S[i].2.2.2.2.2.2.length gc)∧Ms B W.heap.size W ma S[i].2.2.2.2.2.1∧Is B W.heap.size W ga S[i].2.2.2.2.2.2∧(ma=none→mc=0)∧(ga=none→gc=0)∧∀ j,W.frozen? ⟨g,j,none⟩=false:=by
 obtain ⟨Y,h1,h2,h3,h4,h5⟩:=h.own;have hb:=h2.bs.2;rw [h1] at hb;obtain ⟨k,o,ma,mc,ga,gc,e1,_,d,m1,m2,m3,m4⟩:=hb.at hi;simp only [Option.some.injEq,Addr.mk.injEq,and_true] at e1;obtain ⟨rfl,rfl⟩:=e1;refine ⟨ma,mc,ga,gc,by simpa using d,m1,m2,m3,m4,(h2.spot i (by rw [← h1,List.length_map] at hi;exact hi)).2⟩
def pik {α:Type} (ok:Bool) (a b:α):α:=if ok=true then a else b
theorem fidx_cases {α:Type} (p:α→Bool) (S:List α) (k:Nat):fidx p S k<0∨∃ i,∃ h:i<S.length,fidx p S k=((k+i:Nat):Int)∧p S[i]=true:=by
 induction S generalizing k with
 | nil=>exact .inl (by simp [fidx])
 | cons x S ih =>
  rw [fidx]
  by_cases hp:p x=true
  ·rw [if_pos hp]
   exact .inr ⟨0,by simp,by simp,hp⟩
  rw [if_neg hp]
  rcases ih (k+1) with h | ⟨i,h,e,hq⟩
  ·exact .inl h
  exact .inr ⟨i+1,by simpa using h,by rw [e];congr 1;omega,by simpa using hq⟩
def chB (S:List X7) (box:Int) (ok:X7→Bool) (f:X7→X7):Bool×List X7 :=
 if fidx (isG box) S 0<0 then (false,S) else
  match S[(fidx (isG box) S 0).toNat]? with
  | none=>(false,S)
  | some x=>(ok x,S.set (fidx (isG box) S 0).toNat (f x))
theorem chB_no {S:List X7} {box:Int} {ok:X7→Bool} {f:X7→X7} (h:fidx (isG box) S 0<0):chB S box ok f=(false,S):=by rw [chB,if_pos h]
theorem chB_at {S:List X7} {box:Int} {ok:X7→Bool} {f:X7→X7} {i:Nat} (h:fidx (isG box) S 0=(i:Int)) (hi:i<S.length) {x:X7} (hx:S[i]=x):chB S box ok f=(ok x,S.set i (f x)):=by
 rw [chB,if_neg (by omega),h];simp only [Int.toNat_natCast];rw [List.getElem?_eq_getElem hi,hx]
def pmK (y tm gid fl:Int) (tx:ByteArray) (x:X7):Bool:=amOk x.1 x.2.1 x.2.2.1 x.2.2.2.1 x.2.2.2.2.1 x.2.2.2.2.2.1 x.2.2.2.2.2.2 gid fl tx (tm+1) y
def pmF (y tm gid fl:Int) (tx:ByteArray) (x:X7):X7:=(x.1,x.2.1,x.2.2.1,x.2.2.2.1,amN (pmK y tm gid fl tx x) x.2.2.2.2.1,amL (pmK y tm gid fl tx x) x.2.2.2.2.2.1 (nwm gid x.2.2.2.2.1 fl tx (tm+1) y),x.2.2.2.2.2.2)
def mmK (y tm gid fl:Int) (x:X7):Bool:=fmOk x.1 x.2.1 x.2.2.1 x.2.2.2.1 x.2.2.2.2.1 x.2.2.2.2.2.1 x.2.2.2.2.2.2 gid fl (tm+1) y
def mmF (y tm gid fl:Int) (x:X7):X7:=(x.1,x.2.1,x.2.2.1,x.2.2.2.1,x.2.2.2.2.1,fmL (mmK y tm gid fl x) x.2.2.2.2.2.1 gid fl (tm+1) y,x.2.2.2.2.2.2)
def dmK (gid:Int) (x:X7):Bool:=tkOk x.1 x.2.1 x.2.2.1 x.2.2.2.1 x.2.2.2.2.1 x.2.2.2.2.2.1 x.2.2.2.2.2.2 gid
def dmF (gid:Int) (x:X7):X7:=(x.1,x.2.1,x.2.2.1,x.2.2.2.1,x.2.2.2.2.1,tkL (dmK gid x) x.2.2.2.2.2.1 gid,tkG (dmK gid x) x.2.2.2.2.2.2 gid)
def Sx1 (x:X7):Prop:=x.2.1.size≤1048576∧x.2.2.2.2.2.1.length≤1048576∧Sm x.2.2.2.2.2.1∧x.2.2.2.2.2.2.length≤1048576
theorem sb_set {S:List X7} (h:Sb S) (i:Nat) {x:X7} (hx:Sx1 x):Sb (S.set i x):=by
 intro z hz
 rcases mem_set hz with hz | rfl
 ·exact h z hz
 exact hx
theorem sOk_tm {y tm:Int} {S:List X7} {G:List Int} (h:sOk y tm S G=true):0≤tm∧tm≤100000:=by
 unfold sOk at h;simp only [Bool.and_eq_true,decide_eq_true_eq] at h;exact h.2.1
theorem pm_small {y tm gid fl:Int} {tx:ByteArray} {x:X7} (hx:Sx1 x) (ht:tx.size≤1048576):Sx1 (pmF y tm gid fl tx x):=by
 obtain ⟨h1,h2,h3,h4⟩:=hx;refine ⟨h1,?_,?_,h4⟩
 ·show (amL _ _ _).length≤_
  cases h:pmK y tm gid fl tx x with
  | false=>rw [amL,if_neg (by decide)];exact h2
  | true =>
   unfold pmK amOk at h;simp only [Bool.and_eq_true] at h;have:=(bx_parts h.1).1;rw [amL,if_pos rfl,List.length_append];simp only [List.length_cons,List.length_nil]
   omega
 show Sm (amL _ _ _)
 unfold amL
 split
 ·exact sm_snoc h3 ht
 exact h3
theorem mm_small {y tm gid fl:Int} {x:X7} (hx:Sx1 x):Sx1 (mmF y tm gid fl x):=by
 obtain ⟨h1,h2,h3,h4⟩:=hx;refine ⟨h1,?_,?_,h4⟩
 ·show (fmL _ _ _ _ _ _).length≤_
  unfold fmL
  split
  ·rw [List.length_map];exact h2
  exact h2
 exact fm_sm _ h3
theorem heap_drew (W:World):W.drew.heap=W.heap:=rfl
theorem OwX.one {W:World} {y:Y9} (h:OwX W y.lo y.hi y.mv y.gv y.L y.G):∀ u∈yc [y],u.oneCell'=true:=yc_one h.slices.1 h.slices.2
theorem OwS.ones {W:World} {B:Nat} {v:Value} {Y:List Y9} (h:OwS W B v Y):∀ u∈yc Y,u.oneCell'=true:=by
 have h2:=h.each;clear h
 induction Y with
 | nil=>intro u hu;cases hu
 | cons y Y ih =>
  intro u hu
  have e:yc (y::Y)=yc [y]++yc Y:=by rw [← yc_app];rfl
  rw [e] at hu
  rcases List.mem_append.1 hu with hu | hu
  ·exact (h2 y (by simp)).1.one u hu
  exact ih (fun x hx=>h2 x (by simp [hx])) u hu
theorem LsP.sub {W:World} {B:Nat} {v v':Value} {Y Y':List Y9} (h:LsP W B v Y) (hs:Y'.Sublist Y) (hv:v'.ownBlock=v.ownBlock):LsP W B v' Y' :=
 ⟨fun y hy=>h.each y (hs.subset hy),fun y hy j hj=>h.off y (hs.subset hy) j (by rw [← hv];exact hj),h.apart.sublist hs⟩
def insX (x:X7) (S:List X7):List X7:=S.take (S.countP (fun b=>decide (b.1<x.1)))++x::S.drop (S.countP (fun b=>decide (b.1<x.1)))
theorem owx_nils (W:World):OwX W W.heap.size W.heap.size (.slice none 0 0) (.slice none 0 0) [] []:=by
 refine ⟨⟨[],rfl,⟨⟨rfl,.inl ⟨rfl,rfl⟩⟩,(fun z hz=>by cases hz),(fun z hz=>by cases hz),List.Pairwise.nil⟩,⟨rfl,.inl ⟨rfl,rfl⟩⟩,Dj.nil _,(fun z hz=>by cases hz),(fun j hj=>by simp [Value.ownBlock] at hj),(fun j hj=>by simp [Value.ownBlock] at hj),(fun z hz=>by cases hz)⟩,Nat.le_refl _⟩
theorem sOk_all {y tm:Int} {S:List X7} {G:List Int} (h:sOk y tm S G=true):S.length≤5∧gnM 20 G=true∧(∀ i,i<S.length→stp7 tm G S i=true)∧(gids S).Nodup:=by
 unfold sOk at h;simp only [Bool.and_eq_true,decide_eq_true_eq] at h;obtain ⟨_,_,h1,h2,h3,h4⟩:=h;exact ⟨by omega,h2,fun i hi=>List.all_eq_true.1 h3 i (List.mem_range.2 hi),h4⟩
theorem stp7_all {tm:Int} {G:List Int} {S:List X7} (h:∀ i,i<S.length→stp7 tm G S i=true) {i:Nat} (hi:i<S.length):bxx S[i]=true∧pg S i<S[i].1∧fidx (isN S[i].2.1) S 0=(i:Int)∧inl S[i].1 G=false∧tmOk tm S[i].2.2.1 S[i].2.2.2.2.2.1=true:=by
 have h1:=h i hi;rw [stp7_at hi rfl] at h1;simp only [Bool.and_eq_true,decide_eq_true_eq,Bool.not_eq_true'] at h1;exact ⟨h1.1,h1.2.1,h1.2.2.1,h1.2.2.2.1,h1.2.2.2.2⟩
theorem sOk_pw {y tm:Int} {S:List X7} {G:List Int} (h:sOk y tm S G=true):S.Pairwise (fun a b=>a.1<b.1):=by
 obtain ⟨_,_,h3,_⟩:=sOk_all h
 have hs:∀ i (hi:i+1<S.length),S[i].1<S[i+1].1:=fun i hi=>by
  have h1:=(stp7_all h3 hi).2.1;rw [pg_succ (by omega)] at h1;exact h1
 rw [List.pairwise_iff_getElem];intro i j hi hj hij;obtain ⟨d,rfl⟩:∃ d,j=i+1+d:=⟨j - (i+1),by omega⟩
 induction d with
 | zero=>exact hs i hj
 | succ d ih =>
  have h1:=ih (by omega) (by omega);have h2:=hs (i+1+d) hj;exact Int.lt_trans h1 h2
theorem gnM_parts {mo:Int} {G:List Int} (h:gnM mo G=true):asc 0 G=true∧(G.length:Int)≤mo:=by
 unfold gnM at h
 simpa only [Bool.and_eq_true,decide_eq_true_eq] using h
theorem sOk_gone {y tm:Int} {S:List X7} {G:List Int} (h:sOk y tm S G=true):G.Pairwise (·<·)∧G.length≤20:=by
 obtain ⟨h1,h2⟩:=gnM_parts (sOk_all h).2.1;exact ⟨asc_pair h1,by omega⟩
theorem yc_set1 (Y:List Y9) (i:Nat) (nm:ByteArray) (h:i<Y.length):(yc Y).set (i*7+1) (.string nm)=yc (Y.set i { Y[i] with nm:=nm }):=by
 induction Y generalizing i with
 | nil=>simp at h
 | cons x Y ih =>
  cases i with
  | zero=>rfl
  | succ i =>
   have h':i<Y.length:=by simpa using h
   have:=ih i h'
   have e:(i+1)*7=i*7+1+1+1+1+1+1+1:=by omega
   rw [e]
   simpa [yc] using this
theorem yc_set2 (Y:List Y9) (i:Nat) (t b:Int) (h:i<Y.length):((yc Y).set (i*7+2) (.int .i64 t)).set (i*7+3) (.int .i64 b)=yc (Y.set i { Y[i] with t:=t,b:=b }):=by
 induction Y generalizing i with
 | nil=>simp at h
 | cons x Y ih =>
  cases i with
  | zero=>rfl
  | succ i =>
   have h':i<Y.length:=by simpa using h
   have:=ih i h'
   have e:(i+1)*7=i*7+1+1+1+1+1+1+1:=by omega
   rw [e]
   simpa [yc] using this
theorem LsP.swap {W:World} {B:Nat} {v:Value} {Y:List Y9} (h:LsP W B v Y) (i:Nat) (hi:i<Y.length) (z:Y9) (e1:z.lo=Y[i].lo) (e2:z.hi=Y[i].hi) (e3:z.mv=Y[i].mv) (e4:z.gv=Y[i].gv) (e5:z.L=Y[i].L) (e6:z.G=Y[i].G):LsP W B v (Y.set i z):=by
 refine ⟨fun x hx=>?_,fun x hx=>?_,?_⟩
 ·rcases mem_set hx with hx | rfl
  ·exact h.each x hx
  rw [e1,e2,e3,e4,e5,e6];exact h.each _ (List.getElem_mem hi)
 ·rcases mem_set hx with hx | rfl
  ·exact h.off x hx
  rw [e1,e2];exact h.off _ (List.getElem_mem hi)
 have e:(Y.set i z).map (fun y=>(y.lo,y.hi))=Y.map (fun y=>(y.lo,y.hi)):=by
  rw [List.map_set,e1,e2]
  apply List.ext_getElem (by simp)
  intro j h1 h2;rw [List.getElem_set]
  split
  ·rename_i hij
   subst hij
   simp
  rfl
 have hp:=h.apart
 have hp2:(Y.map (fun y=>(y.lo,y.hi))).Pairwise (fun a b=>a.2≤b.1∨b.2≤a.1):=by rw [List.pairwise_map];exact hp
 rw [← e,List.pairwise_map] at hp2;exact hp2
theorem OwS.swap {W W':World} {B g n c:Nat} {Y:List Y9} (h:OwS W B (.slice (some ⟨g,0,none⟩) n c) Y) (hg:W.grownBy W' (some g)) (i:Nat) (hi:i<Y.length) (z:Y9) (e1:z.lo=Y[i].lo) (e2:z.hi=Y[i].hi) (e3:z.mv=Y[i].mv) (e4:z.gv=Y[i].gv) (e5:z.L=Y[i].L) (e6:z.G=Y[i].G)
  (hrow:W'.ownsRow B 38 7 (.slice (some ⟨g,0,none⟩) n c) (Y.set i z).length (yc (Y.set i z))):OwS W' B (.slice (some ⟨g,0,none⟩) n c) (Y.set i z):=by
 have hl:LsP W B (.slice (some ⟨g,0,none⟩) n c) Y:=⟨h.each,h.off,h.apart⟩;have h2:=(hl.grown hg).swap i hi z e1 e2 e3 e4 e5 e6;exact ⟨hrow,h2.each,h2.off,h2.apart⟩
theorem OwT.swap {W W':World} {B g n c:Nat} {gv:Value} {S:List X7} {G:List Int} (h:OwT W B (.slice (some ⟨g,0,none⟩) n c) gv S G) (hg:W.grownBy W' (some g)) (i:Nat) (hi:i<S.length) (f:Y9→Y9) (hf:∀ z,(f z).lo=z.lo∧(f z).hi=z.hi∧(f z).mv=z.mv∧(f z).gv=z.gv∧(f z).L=z.L∧(f z).G=z.G) (x:X7) (hx:∀ z,yd z=S[i]→yd (f z)=x)
  (hrow:∀ Y,W.ownsRow B 38 7 (.slice (some ⟨g,0,none⟩) n c) Y.length (yc Y)→∀ h:i<Y.length,W'.ownsRow B 38 7 (.slice (some ⟨g,0,none⟩) n c) (Y.set i (f Y[i])).length (yc (Y.set i (f Y[i])))):OwT W' B (.slice (some ⟨g,0,none⟩) n c) gv (S.set i x) G:=by
 obtain ⟨Y,h1,h2,h3,h4,h5⟩:=h.own
 have hY:i<Y.length:=by rw [← h1,List.length_map] at hi;exact hi
 have hyi:yd Y[i]=S[i]:=by
  have e:=congrArg (fun l=>l[i]?) h1
  simpa [hY,hi] using e
 obtain ⟨f1,f2,f3,f4,f5,f6⟩:=hf Y[i];refine ⟨Y.set i (f Y[i]),?_,h2.swap hg i hY _ f1 f2 f3 f4 f5 f6 (hrow Y h2.row hY),World.ownsRow.kept h3 hg ?_,h4,fun z hz j hj=>?_⟩
 ·rw [List.map_set,h1,hx _ hyi]
 ·cases hv:Value.ownBlock gv with
  | none=>exact Or.inl rfl
  | some j=>exact Or.inr (fun e=>by simp only [Option.some.injEq] at e;subst e;exact h4 _ hv rfl)
 rcases mem_set hz with hz | rfl
 ·exact h5 z hz j hj
 rw [f1,f2];exact h5 _ (List.getElem_mem hY) j hj
theorem OwT.name {W:World} {B g n c:Nat} {gv:Value} {S:List X7} {G:List Int} (h:OwT W B (.slice (some ⟨g,0,none⟩) n c) gv S G) (i:Nat) (hi:i<S.length) (nm:ByteArray) {x:X7} (hx:S[i]=x) :
  OwT (W.setCell ⟨g,i*7+1,none⟩ (.string nm)) B (.slice (some ⟨g,0,none⟩) n c) gv (S.set i (x.1,nm,x.2.2)) G:=by
 refine h.swap (wst (wre _ _) _ _) i hi (fun z=>{ z with nm:=nm }) (fun z=>⟨rfl,rfl,rfl,rfl,rfl,rfl⟩) _ (fun z hz=>?_) (fun Y hr hY=>?_)
 ·rw [hx] at hz
  rw [← hz]
  rfl
 obtain rfl:n=Y.length:=by
  rcases hr.2 with ⟨h1,h2⟩ | ⟨_,_,_,h1,_⟩
  ·simp at h1
  simp only [Value.slice.injEq] at h1;exact h1.2.1
 have h1:=(World.ownsRow.stored hr (i*7+1) (.string nm)).1;rw [yc_set1 Y i nm hY] at h1;rw [List.length_set];exact h1
theorem OwT.stamp {W:World} {B g n c:Nat} {gv:Value} {S:List X7} {G:List Int} (h:OwT W B (.slice (some ⟨g,0,none⟩) n c) gv S G) (i:Nat) (hi:i<S.length) (t b:Int) {x:X7} (hx:S[i]=x) :
  OwT ((W.setCell ⟨g,i*7+2,none⟩ (.int .i64 t)).setCell ⟨g,i*7+3,none⟩ (.int .i64 b)) B (.slice (some ⟨g,0,none⟩) n c) gv (S.set i (x.1,x.2.1,t,b,x.2.2.2.2)) G:=by
 refine h.swap (wst (wst (wre _ _) _ _) _ _) i hi (fun z=>{ z with t:=t,b:=b }) (fun z=>⟨rfl,rfl,rfl,rfl,rfl,rfl⟩) _ (fun z hz=>?_) (fun Y hr hY=>?_)
 ·rw [hx] at hz
  rw [← hz]
  rfl
 obtain rfl:n=Y.length:=by
  rcases hr.2 with ⟨h1,h2⟩ | ⟨_,_,_,h1,_⟩
  ·simp at h1
  simp only [Value.slice.injEq] at h1;exact h1.2.1
 have h1:=(World.ownsRow.stored hr (i*7+2) (.int .i64 t)).1;have h2:=(World.ownsRow.stored h1 (i*7+3) (.int .i64 b)).1;rw [yc_set2 Y i t b hY] at h2;rw [List.length_set];exact h2
def rnK (nm:ByteArray) (S:List X7) (_:X7):Bool:=!(S.any (isN nm))
def rnF (y tm:Int) (nm:ByteArray) (x:X7):X7:=(x.1,nm,tm+1,y,x.2.2.2.2)
def dbO (S:List X7) (gid:Int):Bool:=decide (0≤fidx (isG gid) S 0)
def dbS (S:List X7) (gid:Int):List X7:=if 0≤fidx (isG gid) S 0 then S.take (fidx (isG gid) S 0).toNat++S.drop ((fidx (isG gid) S 0).toNat+1) else S
theorem db_no {S:List X7} {gid:Int} (h:fidx (isG gid) S 0<0):dbO S gid=false∧dbS S gid=S:=by
 unfold dbO dbS;rw [if_neg (by omega)];exact ⟨by simp;omega,rfl⟩
theorem db_at {S:List X7} {gid:Int} {i:Nat} (h:fidx (isG gid) S 0=(i:Int)):dbO S gid=true∧dbS S gid=S.take i++S.drop (i+1):=by
 unfold dbO dbS;rw [if_pos (by omega),h];exact ⟨by simp,by simp⟩
structure OwN (W:World) (B:Nat) (P:Nat→Prop) (bv gv:Value) (S:List X7) (G:List Int):Prop where
 own:∃ Y,Y.map yd=S∧OwS W B bv Y∧OwI W B gv G∧Dj gv bv∧(∀ y∈Y,∀ j,gv.ownBlock=some j→j<y.lo∨y.hi≤j)∧(∀ j,bv.ownBlock=some j→¬ P j)∧(∀ j,gv.ownBlock=some j→¬ P j)∧∀ y∈Y,∀ j,y.lo≤j→j<y.hi→¬ P j
section
variable {W W':World} {B B':Nat} {P:Nat→Prop} {bv gv:Value} {S:List X7} {G:List Int}
theorem OwN.ot (h:OwN W B P bv gv S G):OwT W B bv gv S G:=by
 obtain ⟨Y,h1,h2,h3,h4,h5,_⟩:=h.own;exact ⟨Y,h1,h2,h3,h4,h5⟩
theorem OwT.far (h:OwT W B bv gv S G) (hk:∀ j,P j→W.heap.size≤j∨j<B):OwN W B P bv gv S G:=by
 obtain ⟨Y,h1,h2,h3,h4,h5⟩:=h.own;exact ⟨Y,h1,h2,h3,h4,h5,fun j e hp=>by have h6:=h2.row.lt j e;have h7:=hk j hp;omega,fun j e hp=>by have h6:=h3.lt j e;have h7:=hk j hp;omega,fun y hy j j1 j2 hp=>by have h6:=h2.each y hy;have h7:=hk j hp;have h8:=h6.1.top;have h9:=h6.2;omega⟩
theorem OwN.later (h:OwN W B P bv gv S G) (hb:Below W.heap.size W W'):OwN W' B P bv gv S G:=by
 obtain ⟨Y,h1,h2,h3,h4,h5,h6⟩:=h.own;exact ⟨Y,h1,h2.later hb,own_later h3 hb,h4,h5,h6⟩
theorem OwN.base (h:OwN W B' P bv gv S G) (hB:B≤B'):OwN W B P bv gv S G:=by
 obtain ⟨Y,h1,h2,h3,h4,h5,h6⟩:=h.own;exact ⟨Y,h1,h2.base hB,own_base h3 hB,h4,h5,h6⟩
theorem OwN.set {k:Nat} (h:OwN W B P bv gv S G) (hg:W.grownBy W' (some k)) (hk:P k):OwN W' B P bv gv S G:=by
 obtain ⟨Y,h1,h2,h3,h4,h5,h6,h7,h8⟩:=h.own;refine ⟨Y,h1,h2.kept hg.size (fun j hj=>hg.block j (h2.row.lt j hj).2 (fun e=>by simp only [Option.some.injEq] at e;subst e;exact h6 _ hj hk)) (fun y hy j hj1 hj2=>hg.block j (Nat.lt_of_lt_of_le hj2 (h2.each y hy).1.top) (fun e=>?_)),World.ownsRow.kept h3 hg (.inr (fun e=>h7 k e hk)),h4,h5,h6,h7,h8⟩;simp only [Option.some.injEq] at e;subst e;exact h8 y hy _ hj1 hj2 hk
end
theorem OwN.put {W:World} {B B' g n c:Nat} {P:Nat→Prop} {gv:Value} {S:List X7} {G:List Int} (h:OwN W B' P (.slice (some ⟨g,0,none⟩) n c) gv S G) (i:Nat) (hi:i<S.length) (y:Y9) (ho:OwX W y.lo y.hi y.mv y.gv y.L y.G) (hB:B≤y.lo) (hB2:B≤B') (hy:y.hi≤B') (hk:∀ j,y.lo≤j→j<y.hi→¬ P j) :
  OwN (put7 W g (i*7) y) B P (.slice (some ⟨g,0,none⟩) n c) gv (S.set i (yd y)) G:=by
 obtain ⟨Y,h1,h2,h3,h4,h5,h6,h7,h8⟩:=h.own
 have hlen:Y.length=S.length:=by rw [← h1,List.length_map]
 have hgr:=put7_grown W g (i*7) y;have hg:=(h2.row.lt g rfl).1;refine ⟨Y.set i y,?_,(h2.base hB2).stored i (by omega) y ho hB (.inr (by omega)) (fun x hx=>.inr (Nat.le_trans hy (h2.each x hx).2)),?_,h4,fun z hz j hj=>?_,h6,h7,fun z hz=>?_⟩
 ·rw [← h1,List.map_set]
 ·exact World.ownsRow.kept (own_base h3 hB2) hgr (by
    cases hv:Value.ownBlock gv with
    | none=>exact Or.inl rfl
    | some j=>exact Or.inr (fun e=>by simp only [Option.some.injEq] at e;subst e;exact h4 _ hv rfl))
 ·rcases mem_set hz with hz | rfl
  ·exact h5 z hz j hj
  have:=(h3.lt j hj).1;exact .inr (by omega)
 rcases mem_set hz with hz | rfl
 ·exact h8 z hz
 exact hk
theorem OwN.putn {W0 W:World} {B g n c:Nat} {P:Nat→Prop} {gv:Value} {S:List X7} {G:List Int} (h:OwN W0 B P (.slice (some ⟨g,0,none⟩) n c) gv S G) (hb:Below W0.heap.size W0 W) (i:Nat) (hi:i<S.length) (y:Y9) (ho:OwX W y.lo y.hi y.mv y.gv y.L y.G) (hB:B≤W0.heap.size) (hW:W0.heap.size≤y.lo) (hk:∀ j,y.lo≤j→j<y.hi→¬ P j) :
  OwN (put7 W g (i*7) y) B P (.slice (some ⟨g,0,none⟩) n c) gv (S.set i (yd y)) G:=by
 obtain ⟨Y,h1,h2,h3,h4,h5,h6,h7,h8⟩:=h.own
 have hlen:Y.length=S.length:=by rw [← h1,List.length_map]
 have hgr:=put7_grown W g (i*7) y;have k2:=h2.later hb;have k3:=own_later h3 hb;have hg:=(h2.row.lt g rfl).2;refine ⟨Y.set i y,?_,k2.stored i (by omega) y ho (by omega) (.inl (by omega)) (fun x hx=>.inl (Nat.le_trans (h2.each x hx).1.top hW)),?_,h4,fun z hz j hj=>?_,h6,h7,fun z hz=>?_⟩
 ·rw [← h1,List.map_set]
 ·exact World.ownsRow.kept k3 hgr (by
    cases hv:Value.ownBlock gv with
    | none=>exact Or.inl rfl
    | some j=>exact Or.inr (fun e=>by simp only [Option.some.injEq] at e;subst e;exact h4 _ hv rfl))
 ·rcases mem_set hz with hz | rfl
  ·exact h5 z hz j hj
  have:=(h3.lt j hj).2;exact .inl (by omega)
 rcases mem_set hz with hz | rfl
 ·exact h8 z hz
 exact hk
theorem OwN.swap {W W':World} {B g n c:Nat} {P:Nat→Prop} {gv:Value} {S:List X7} {G:List Int} (h:OwN W B P (.slice (some ⟨g,0,none⟩) n c) gv S G) (hg:W.grownBy W' (some g)) (i:Nat) (hi:i<S.length) (f:Y9→Y9) (hf:∀ z,(f z).lo=z.lo∧(f z).hi=z.hi∧(f z).mv=z.mv∧(f z).gv=z.gv∧(f z).L=z.L∧(f z).G=z.G) (x:X7) (hx:∀ z,yd z=S[i]→yd (f z)=x)
  (hrow:∀ Y,W.ownsRow B 38 7 (.slice (some ⟨g,0,none⟩) n c) Y.length (yc Y)→∀ h:i<Y.length,W'.ownsRow B 38 7 (.slice (some ⟨g,0,none⟩) n c) (Y.set i (f Y[i])).length (yc (Y.set i (f Y[i])))):OwN W' B P (.slice (some ⟨g,0,none⟩) n c) gv (S.set i x) G:=by
 obtain ⟨Y,h1,h2,h3,h4,h5,h6,h7,h8⟩:=h.own
 have hY:i<Y.length:=by rw [← h1,List.length_map] at hi;exact hi
 have hyi:yd Y[i]=S[i]:=by
  have e:=congrArg (fun l=>l[i]?) h1
  simpa [hY,hi] using e
 obtain ⟨f1,f2,f3,f4,f5,f6⟩:=hf Y[i];refine ⟨Y.set i (f Y[i]),?_,h2.swap hg i hY _ f1 f2 f3 f4 f5 f6 (hrow Y h2.row hY),World.ownsRow.kept h3 hg ?_,h4,fun z hz j hj=>?_,h6,h7,fun z hz=>?_⟩
 ·rw [List.map_set,h1,hx _ hyi]
 ·cases hv:Value.ownBlock gv with
  | none=>exact Or.inl rfl
  | some j=>exact Or.inr (fun e=>by simp only [Option.some.injEq] at e;subst e;exact h4 _ hv rfl)
 ·rcases mem_set hz with hz | rfl
  ·exact h5 z hz j hj
  rw [f1,f2];exact h5 _ (List.getElem_mem hY) j hj
 rcases mem_set hz with hz | rfl
 ·exact h8 z hz
 rw [f1,f2];exact h8 _ (List.getElem_mem hY)
theorem OwN.name {W:World} {B g n c:Nat} {P:Nat→Prop} {gv:Value} {S:List X7} {G:List Int} (h:OwN W B P (.slice (some ⟨g,0,none⟩) n c) gv S G) (i:Nat) (hi:i<S.length) (nm:ByteArray) {x:X7} (hx:S[i]=x) :
  OwN (W.setCell ⟨g,i*7+1,none⟩ (.string nm)) B P (.slice (some ⟨g,0,none⟩) n c) gv (S.set i (x.1,nm,x.2.2)) G:=by
 refine h.swap (wst (wre _ _) _ _) i hi (fun z=>{ z with nm:=nm }) (fun z=>⟨rfl,rfl,rfl,rfl,rfl,rfl⟩) _ (fun z hz=>?_) (fun Y hr hY=>?_)
 ·rw [hx] at hz
  rw [← hz]
  rfl
 obtain rfl:n=Y.length:=by
  rcases hr.2 with ⟨h1,h2⟩ | ⟨_,_,_,h1,_⟩
  ·simp at h1
  simp only [Value.slice.injEq] at h1;exact h1.2.1
 have h1:=(World.ownsRow.stored hr (i*7+1) (.string nm)).1;rw [yc_set1 Y i nm hY] at h1;rw [List.length_set];exact h1
theorem OwN.stamp {W:World} {B g n c:Nat} {P:Nat→Prop} {gv:Value} {S:List X7} {G:List Int} (h:OwN W B P (.slice (some ⟨g,0,none⟩) n c) gv S G) (i:Nat) (hi:i<S.length) (t b:Int) {x:X7} (hx:S[i]=x) :
  OwN ((W.setCell ⟨g,i*7+2,none⟩ (.int .i64 t)).setCell ⟨g,i*7+3,none⟩ (.int .i64 b)) B P (.slice (some ⟨g,0,none⟩) n c) gv (S.set i (x.1,x.2.1,t,b,x.2.2.2.2)) G:=by
 refine h.swap (wst (wst (wre _ _) _ _) _ _) i hi (fun z=>{ z with t:=t,b:=b }) (fun z=>⟨rfl,rfl,rfl,rfl,rfl,rfl⟩) _ (fun z hz=>?_) (fun Y hr hY=>?_)
 ·rw [hx] at hz
  rw [← hz]
  rfl
 obtain rfl:n=Y.length:=by
  rcases hr.2 with ⟨h1,h2⟩ | ⟨_,_,_,h1,_⟩
  ·simp at h1
  simp only [Value.slice.injEq] at h1;exact h1.2.1
 have h1:=(World.ownsRow.stored hr (i*7+2) (.int .i64 t)).1;have h2:=(World.ownsRow.stored h1 (i*7+3) (.int .i64 b)).1;rw [yc_set2 Y i t b hY] at h2;rw [List.length_set];exact h2
theorem OwN.lt {W:World} {B g n c:Nat} {P:Nat→Prop} {gv:Value} {S:List X7} {G:List Int} (h:OwN W B P (.slice (some ⟨g,0,none⟩) n c) gv S G):B≤g∧g<W.heap.size∧¬ P g:=by
 obtain ⟨Y,_,h2,_,_,_,h6,_⟩:=h.own;have:=h2.row.lt g rfl;exact ⟨this.1,this.2,h6 g rfl⟩
theorem store_box_store (w:World) (ta tb tc:Nat) (y tm y1 tm1:Int) (bv gv bv1 gv1:Value) (g:Int) (nm:ByteArray) (t b nx:Int) (mv lv:Value) (W0:World)
  (h:((w.alloc (.cells #[.int .i64 y,.int .i64 tm,bv,gv] ta)).alloc (.cells #[.int .i64 g,.string nm,.int .i64 t,.int .i64 b,.int .i64 nx,mv,lv] tb)).alloc (.cells #[.int .i64 y1,.int .i64 tm1,bv1,gv1] tc)=W0) :
  Sx W0 w.heap.size ta y tm bv gv∧Bx W0 (w.heap.size+1) tb g nm t b nx mv lv∧Sx W0 (w.heap.size+1+1) tc y1 tm1 bv1 gv1∧Below w.heap.size w W0∧W0.heap.size=w.heap.size+1+1+1:=by
 have e1:(w.alloc (.cells #[.int .i64 y,.int .i64 tm,bv,gv] ta)).heap.size=w.heap.size+1:=by simp
 have e2:((w.alloc (.cells #[.int .i64 y,.int .i64 tm,bv,gv] ta)).alloc (.cells #[.int .i64 g,.string nm,.int .i64 t,.int .i64 b,.int .i64 nx,mv,lv] tb)).heap.size=w.heap.size+1+1:=by simp
 have h1:=Bx.new (w.alloc (.cells #[.int .i64 y,.int .i64 tm,bv,gv] ta)) tb g nm t b nx mv lv;have h2:=Sx.new ((w.alloc (.cells #[.int .i64 y,.int .i64 tm,bv,gv] ta)).alloc (.cells #[.int .i64 g,.string nm,.int .i64 t,.int .i64 b,.int .i64 nx,mv,lv] tb)) tc y1 tm1 bv1 gv1;rw [e1] at h1;rw [e2] at h2;subst h;exact ⟨(Sx.new w ta y tm bv gv).later (bpush (bpush (bre _) _) _),h1.later (bpush (bre _) _),h2,bpush (bpush (bpush (bre _) _) _) _,by simp⟩
end Go.Proofs.YtdkedgedkgabnaaGreatDoor
