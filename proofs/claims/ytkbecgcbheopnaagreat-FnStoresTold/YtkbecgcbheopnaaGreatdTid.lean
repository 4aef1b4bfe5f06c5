/- Tid. -/
import Derived.Test.YtkbecgcbheopnaaGreatdSsh
import Derived.Sort.OwnSortedInts
namespace Go.Proofs.YtkbecgcbheopnaaGreat
open Go.RowKit Go.ChangeMaps
theorem compact_len (zs:List Int):(Go.Lib.compact zs).length=zs.length↔∀ j,j<zs.length→Go.Lib.keeps zs.toArray j=true:=by
 unfold Go.Lib.compact Go.Lib.compactUpTo
 rw [List.length_map]
 constructor
 ·intro h
  have h2:((List.range zs.length).filter (Go.Lib.keeps zs.toArray)).length=(List.range zs.length).length:=by rw [h,List.length_range]
  have h3:=List.length_filter_eq_length_iff.1 h2
  intro j hj
  exact h3 j (List.mem_range.2 hj)
 ·intro h
  have h3:=(List.length_filter_eq_length_iff (l:=List.range zs.length) (p:=Go.Lib.keeps zs.toArray)).2 (fun j hj=>h j (List.mem_range.1 hj))
  rw [h3,List.length_range]
theorem sorted_keeps {zs:List Int} (hs:zs.Pairwise (fun a b=>a≤b)):(∀ j,j<zs.length→Go.Lib.keeps zs.toArray j=true)↔zs.Nodup:=by
 constructor
 ·intro h
  have h1:zs.Pairwise (fun a b=>a<b):=by
   rw [List.pairwise_iff_getElem] at hs ⊢
   intro i j hi hj hij
   have e:∀ k,k<zs.length→0<k→zs[k - 1]!<zs[k]!:=by
    intro k hk h0
    have h2:=h k hk
    unfold Go.Lib.keeps at h2
    simp only [decide_eq_true_eq] at h2
    rcases h2 with h2 | h2
    ·omega
    ·have h3:=hs (k - 1) k (by omega) hk (by omega)
     have e1:zs.toArray[k]! = zs[k]!:=by simp
     have e2:zs.toArray[k-1]! = zs[k-1]!:=by simp
     rw [e1,e2] at h2
     have e3:zs[k]! = zs[k]:=by simp [hk]
     have e4:zs[k-1]! = zs[k-1]:=by simp [show k - 1<zs.length by omega]
     rw [e3,e4] at h2 ⊢
     omega
   have h3:=e j hj (by omega)
   have e3:zs[j]! = zs[j]:=by simp [hj]
   have e4:zs[j-1]! = zs[j-1]:=by simp [show j - 1<zs.length by omega]
   rw [e3,e4] at h3
   by_cases hjj:i=j - 1
   ·subst hjj;exact h3
   ·have:=hs i (j - 1) hi (by omega) (by omega)
    omega
  exact h1.imp (fun h=>by omega)
 ·intro hn j hj
  unfold Go.Lib.keeps
  simp only [decide_eq_true_eq]
  by_cases h0:j=0
  ·exact .inl h0
  ·right
   intro e
   have e1:zs.toArray[j]! = zs[j]:=by simp [hj]
   have e2:zs.toArray[j-1]! = zs[j-1]:=by simp [show j - 1<zs.length by omega]
   rw [e1,e2] at e
   exact (List.pairwise_iff_getElem.1 hn (j - 1) j (by omega) hj (by omega)) e.symm
theorem sort_pairs (zs:List Int):(zs.mergeSort fun x y=>decide (x≤y)).Pairwise (fun a b=>a≤b):=by
 have:=List.pairwise_mergeSort (le:=fun x y:Int=>decide (x≤y)) (fun a b c=>by simp;omega) (fun a b=>by simp;omega) zs
 exact this.imp (fun h=>by simpa using h)
theorem compact_sort (zs:List Int):decide (((Go.Lib.compact (zs.mergeSort fun x y=>decide (x≤y))).length:Int)=(zs.length:Int))=decide zs.Nodup:=by
 have hp:=List.mergeSort_perm zs (fun x y:Int=>decide (x≤y))
 have h1:=compact_len (zs.mergeSort fun x y=>decide (x≤y))
 rw [sorted_keeps (sort_pairs zs),hp.nodup_iff,hp.length_eq] at h1
 by_cases h:zs.Nodup
 ·have:=h1.2 h
  simp [h,this]
 ·have h2:=mt h1.1 h
  simp only [h,decide_false]
  simp only [decide_eq_false_iff_not]
  omega
theorem sortI_any (B:Nat) (v:Value) (zs:List Int) (w:World) (hown:OwI w B v zs) (hl:zs.length≤1048576) :
  Calls Tryz.prog 104 #[v] w fun e w'=>e=.returned (.tuple #[])∧OwI w' B v (zs.mergeSort fun x y=>decide (x≤y))∧w.grownBy w' v.ownBlock:=by
 rcases hown.2 with ⟨rfl,h2⟩ | ⟨g,cap,cur,h1,h2,h3,h4,h5,h6,h7⟩
 ·obtain rfl:zs=[]:=List.eq_nil_of_length_eq_zero h2
  refine (Any.slices_Sort_int_none soLays none 0 w).mono ?_
  rintro e w' ⟨rfl,rfl⟩
  exact ⟨rfl,by simpa using hown,wre _ _⟩
 ·subst h1
  have hH:=holds_of_blockI (ss:=zs) h3 (by simpa using h7)
  refine (Any.slices_Sort_int soLays g 0 cap zs w hH (Array.getElem?_eq_some_iff.1 h3).1 (by omega)).mono ?_
  rintro e w' ⟨rfl,n,os,rfl⟩
  have hlen:(zs.mergeSort fun x y=>decide (x≤y)).length=zs.length:=List.length_mergeSort zs
  refine ⟨rfl,?_,grownBy_sortedI _⟩
  have h8:=ownsRow_sortedI (n:=n) (os:=os) (e:=3) hlen h2 h3 h4 h5 h6
  unfold OwI
  rw [hlen]
  exact h8
theorem compactI_any (B:Nat) (v:Value) (zs:List Int) (w:World) (hown:OwI w B v zs) (hl:zs.length≤1048576) :
  Calls Tryz.prog 105 #[v] w fun e w'=>∃ a c,e=.returned (.slice a (Go.Lib.compact zs).length c)∧w.grownBy w' v.ownBlock:=by
 rcases hown.2 with ⟨rfl,h2⟩ | ⟨g,cap,cur,h1,h2,h3,h4,h5,h6,h7⟩
 ·obtain rfl:zs=[]:=List.eq_nil_of_length_eq_zero h2
  refine (Any.slices_Compact_int_empty coLays none 0 w).mono ?_
  rintro e w' ⟨rfl,rfl⟩
  exact ⟨none,0,rfl,wre _ _⟩
 ·subst h1
  have hH:=holds_of_blockI (ss:=zs) h3 (by simpa using h7)
  refine (Any.slices_Compact_int coLays g 0 cap zs w hH (by omega) h4).mono ?_
  rintro e w' ⟨rfl,q,rfl⟩
  refine ⟨_,_,rfl,?_⟩
  have h8:=grownBy_sortedI (w:=w) (g:=g) (n:=q) (os:=#[]) (Go.Lib.compact zs++List.replicate (zs.length - (Go.Lib.compact zs).length) 0).toArray
  rw [Go.Sort.grow_empty] at h8
  exact h8
theorem gids_le {S:List X7} {i k:Nat} {L:List M4} (h:i<S.length) (hL:S[i].2.2.2.2.2.1=L) (hk:k≤L.length):(gids (S.take i)++(L.take k).map (fun m=>m.1)).length≤(gids S).length:=by
 have e1:gids S=gids (S.take (i+1))++gids (S.drop (i+1)):=by
  unfold gids
  rw [← List.flatMap_append,List.take_append_drop]
 rw [e1,gids_take h,hL]
 simp only [List.length_append,List.length_map,List.length_take]
 omega
set_option maxHeartbeats 1600000 in
set_option maxRecDepth 100000 in
theorem mailsUnlike_any (lo hi:Nat) (ba:Option Addr) (bn bc:Nat) (S:List X7) (w:World) (hl:S.length=bn) (hn:bn≤1048576) (hsb:Sb S) (hm:Bs lo hi w ba S) (hg:(gids S).length≤1048576) :
  Calls Tryz.prog 47 #[.slice ba bn bc] w fun e w'=>e=.returned (.bool (decide (gids S).Nodup))∧Below w.heap.size w w':=by
 have HL:=hid hl
 have HN:=hid hn
 have HSB:=hid hsb
 have HR:=hid hm
 have HG:=hid hg
 clear hl hsb hm hg
 go_enter Tryz.func47,Tryz.ntmps47
 go_wp2
 go_loopw [3,10] (fun vv iv wr=>∃ (i:Nat),i≤bn∧iv=.int .i64 (i:Int)∧OwI wr w.heap.size vv (gids (S.take i))∧Below w.heap.size w wr) (fun _ iv _=>bn - (intOf iv).toNat)
 case atStart=>exact ⟨0,Nat.zero_le _,rfl,⟨rfl,.inl ⟨rfl,rfl⟩⟩,bre _⟩
 case round =>
  obtain ⟨i,hin,rfl,hown,hb⟩:=hrel
  obtain ⟨vv,hvv⟩:∃ vv,vv=u3:=⟨_,rfl⟩
  subst hvv
  obtain ⟨wq,hwq⟩:∃ wq,wq=wr:=⟨_,rfl⟩
  subst hwq
  have HB:=hid hb
  have HOW:=hid hown
  have hbn:=HN.out
  clear hb hown
  by_cases hlt:i<bn
  ·have hil:i<S.length:=by rw [HL.out];exact hlt
   obtain ⟨k,o,ma1,mc1,ga1,gc1,rfl,hk,d,hms,his,_⟩:=(HR.out.later HB.out).at hil
   have hmem:=HSB.out S[i] (List.getElem_mem hil)
   obtain ⟨q,hq⟩:∃ q,S[i]=q:=⟨_,rfl⟩
   obtain ⟨g1,nm1,t1,b1,nx1,L1,G1⟩:=q
   rw [hq] at d hms hmem
   dsimp only at d hms hmem
   have HQ:Hid (S[i].2.2.2.2.2.1=L1):=by show _=_;rw [hq]
   obtain ⟨m1,hm1⟩:∃ m1,L1.length=m1:=⟨_,rfl⟩
   obtain ⟨n1,hn1⟩:∃ n1,G1.length=n1:=⟨_,rfl⟩
   rw [hm1,hn1] at d hmem
   have HM1:=hid hm1
   have hml:=hmem.2.1
   have AB:=Bx.new wq 37 g1 nm1 t1 b1 nx1 (.slice ma1 m1 mc1) (.slice ga1 n1 gc1)
   have BB:Below wq.heap.size wq (wq.alloc (.cells #[.int .i64 g1,.string nm1,.int .i64 t1,.int .i64 b1,.int .i64 nx1,.slice ma1 m1 mc1,.slice ga1 n1 gc1] 37)):=bpush (bre _) _
   have cb:=AB.cells
   have HMS:=hid (hms.later BB)
   have HOB:=hid (own_later HOW.out BB)
   have HBB:=hid (btr HB.out BB)
   have hI:(0:Int)≤(i:Int)∧(i:Int)<(bn:Int):=by omega
   unfold C7 at d
   clear hq hms his hmem hm1 hn1 AB BB hk
   go_wp2
   obtain ⟨W1,hW1⟩:∃ W1,wq.alloc (.cells #[.int .i64 g1,.string nm1,.int .i64 t1,.int .i64 b1,.int .i64 nx1,.slice ma1 m1 mc1,.slice ga1 n1 gc1] 37)=W1:=⟨_,rfl⟩
   rw [hW1] at HMS HOB HBB ⊢
   clear hW1 d cb
   go_loopw [3,17] (fun vv2 kv wr=>∃ k2:Nat,k2≤m1∧kv=.int .i64 (k2:Int)∧OwI wr w.heap.size vv2 (gids (S.take i)++(L1.take k2).map (fun m=>m.1))∧Ms lo hi wr ma1 L1∧Below w.heap.size w wr) (fun _ kv _=>m1 - (intOf kv).toNat)
   case atStart=>exact ⟨0,Nat.zero_le _,rfl,by simpa using HOB.out,HMS.out,HBB.out⟩
   case round =>
    obtain ⟨k2,hk2,rfl,hown2,hms2,hb2⟩:=hrel
    obtain ⟨v2,hv2⟩:∃ v2,v2=u3:=⟨_,rfl⟩
    subst hv2
    have HO2:=hid hown2
    have HM2:=hid hms2
    have HB2:=hid hb2
    clear hown2 hms2 hb2
    by_cases hkt:k2<m1
    ·have hkl:k2<L1.length:=by rw [HM1.out];exact hkt
     obtain ⟨km,om,fa1,fc1,rfl,hkm,cm,_⟩:=HM2.out.at hkl
     have HLE:=hid (Nat.le_trans (gids_le hil HQ.out (Nat.le_of_lt hkl)) HG.out)
     have HSN:=hid (map_take_snoc hkl)
     obtain ⟨x,hx⟩:∃ x,L1[k2]=x:=⟨_,rfl⟩
     rw [hx] at cm HSN
     obtain ⟨x1,x2,x3,x4⟩:=x
     dsimp only at cm HSN
     obtain ⟨n3,hn3⟩:∃ n3,x3.length=n3:=⟨_,rfl⟩
     rw [hn3] at cm
     have AM:=Mg.new wr 86 x1 x2 (.slice fa1 n3 fc1) x4
     have BM:Below wr.heap.size wr (wr.alloc (.cells #[.int .i64 x1,.int .i64 x2,.slice fa1 n3 fc1,.string x4] 86)):=bpush (bre _) _
     have cg:=AM.cells
     have HO3:=hid (own_later HO2.out BM)
     have HM3:=hid (HM2.out.later BM)
     have HB3:=hid (btr HB2.out BM)
     have hK:(0:Int)≤(k2:Int)∧(k2:Int)<(m1:Int):=by omega
     have HSZ:Hid (w.heap.size≤(wr.alloc (.cells #[.int .i64 x1,.int .i64 x2,.slice fa1 n3 fc1,.string x4] 86)).heap.size):=Nat.le_trans HB2.out.size BM.size
     have HSE:Hid ((wr.alloc (.cells #[.int .i64 x1,.int .i64 x2,.slice fa1 n3 fc1,.string x4] 86)).heap.size=wr.heap.size+1):=by show _=_;simp
     clear hx hn3 AM BM hkm
     go_wp2_with (at_builtin;refine wpList_append_ik _ rfl (.tmp 21) (.tmp 24) rfl w.heap.size _ (gids (S.take i)++(L1.take k2).map (fun m=>m.1)) (by rfl) (by have h:=HO3.out;exact h) x1 (by rw [HSE.out];rfl) HLE.out HSZ.out ?_;intro v7 w7 hrow7 hg7 hl7;have O8:=hid hrow7;have BL8:Hid (Below w.heap.size w w7):=HB3.out.trans (((Below.refl _ _).alloc HSZ.out _).grown hg7 (by have:=HSZ.out;simp at this;simp;omega) (fun k hk=>(HO3.out.lt k hk).1));have M8:Hid (Ms lo hi w7 (some ⟨km,om,none⟩) L1):=(HM3.out.same (by have h1:=HM3.out.1;have h2:=hg7.size;simp at h1 h2;omega) (fun k _ hk=>(hg7.block k (by have h1:=HM3.out.1;simp at h1;simp;omega) (fun e=>by have h1:=(HO3.out.lt k e.symm).1;have h2:=HR.out.1;omega)).trans (Below.heap_alloc _ _ k (by have h1:=HM3.out.1;omega))));clear hrow7 hg7 hl7)
     go_roundw
     case rel=>exact ⟨k2+1,by omega,by go_num,by have h:=O8.out;rw [List.append_assoc,HSN.out] at h;exact h,M8.out,BL8.out⟩
     case measure=>simp [intOf];omega
    ·have HE:Hid (gids (S.take i)++(L1.take k2).map (fun m=>m.1)=gids (S.take (i+1))):=by
      show _=_
      rw [gids_take hil,HQ.out,List.take_of_length_le (l:=L1) (by rw [HM1.out];omega)]
     rw [HE.out] at HO2
     go_wp2
     go_roundw
     case rel=>exact ⟨i+1,by omega,by go_num,HO2.out,HB2.out⟩
     case measure=>simp [intOf];omega
  ·have HO:Hid (OwI wq w.heap.size vv (gids S)):=by
    have h:=HOW.out
    rw [List.take_of_length_le (by rw [HL.out];omega)] at h
    exact h
   obtain ⟨zs,hzs⟩:∃ zs,gids S=zs:=⟨_,rfl⟩
   rw [hzs] at HO HG
   have HZ:=hid hzs
   clear hzs HOW
   go_wp2_with fail
   refine (sortI_any w.heap.size vv zs _ HO.out HG.out).mono ?_;rintro e w3 ⟨rfl,ho3,hg3⟩
   have hlen:(zs.mergeSort fun x y=>decide (x≤y)).length=zs.length:=List.length_mergeSort zs
   have hcs:=compact_sort zs
   obtain ⟨ys,hys⟩:∃ ys,(zs.mergeSort fun x y=>decide (x≤y))=ys:=⟨_,rfl⟩
   rw [hys] at ho3 hlen hcs
   have HLE:=hid hlen
   have HCS:=hid hcs
   have HO3:=hid ho3
   have HB3:Hid (Below w.heap.size w w3):=HB.out.trans ((Below.refl _ _).grown hg3 (HB.out.size) (fun k hk=>(HO.out.lt k hk).1))
   clear ho3 hg3 hlen hcs hys
   go_wp2_with fail
   refine (compactI_any w.heap.size vv ys _ HO3.out (by rw [HLE.out];exact HG.out)).mono ?_;rintro e w4 ⟨ca,cc,rfl,hg4⟩
   have HB4:Hid (Below w.heap.size w w4):=HB3.out.trans ((Below.refl _ _).grown hg4 (HB3.out.size) (fun k hk=>(HO3.out.lt k hk).1))
   obtain ⟨cl,hcl⟩:∃ cl,(Go.Lib.compact ys).length=cl:=⟨_,rfl⟩
   rw [hcl] at HCS ⊢
   obtain ⟨a3,c3,hv3,_⟩:=OwI.shape HO3.out
   subst hv3
   obtain ⟨yl,hyl⟩:∃ yl,ys.length=yl:=⟨_,rfl⟩
   rw [hyl] at HLE HO3 ⊢
   have HE:Hid (decide (gids S).Nodup=((cl:Int) == (yl:Int))):=by
    show _=_
    rw [HZ.out,← HCS.out,HLE.out]
    simp [BEq.beq]
   clear hg4 hcl hyl
   go_wp2
   go_ret
   exact ⟨by rw [HE.out];rfl,HB4.out⟩
theorem sOk_bk (y tm:Int) (S:List X7) (G:List Int):sOk y tm S G=((decide (1≤y)&&decide (y≤2))&&((decide (0≤tm)&&decide (tm≤100000))&&(gnM 20 G&&(bkOk tm G S&&decide (gids S).Nodup)))):=by
 unfold sOk bkOk
 cases gnM 20 G <;> cases decide ((S.length:Int)≤5) <;> simp
theorem bk_gids {tm:Int} {G:List Int} {S:List X7} (h:bkOk tm G S=true):(gids S).length≤50:=by
 unfold bkOk at h
 simp only [Bool.and_eq_true,decide_eq_true_eq] at h
 have h2:=List.all_eq_true.1 h.2
 have h3:=gids_small (S:=S) (i:=S.length) (fun j hj hl=>h2 j (List.mem_range.2 hl)) (Nat.le_refl _)
 rw [List.take_length] at h3
 omega
set_option maxHeartbeats 1600000 in
set_option maxRecDepth 100000 in
theorem implStoreOk_any (lo hi lo' hi':Nat) (y tm:Int) (ba:Option Addr) (bn bc:Nat) (ga:Option Addr) (gn gc:Nat) (S:List X7) (G:List Int) (w:World) (hl:S.length=bn) (hn:bn≤1048576) (hsb:Sb S) (hm:Bs lo hi w ba S) (hgl:G.length=gn) (hgn:gn≤1048576) (hs:Is lo' hi' w ga G) :
  Calls Tryz.prog 9 #[.agg #[.int .i64 y,.int .i64 tm,.slice ba bn bc,.slice ga gn gc]] w fun e w'=>e=.returned (.bool (sOk y tm S G))∧Below w.heap.size w w':=by
 have HX:=hid (sOk_bk y tm S G)
 obtain ⟨W0,hW0⟩:∃ W0,w.alloc (.cells #[.int .i64 y,.int .i64 tm,.slice ba bn bc,.slice ga gn gc] 27)=W0:=⟨_,rfl⟩
 have a0:Sx W0 w.heap.size 27 y tm (.slice ba bn bc) (.slice ga gn gc):=by subst hW0;exact Sx.new w _ y tm _ _
 have b0:Below w.heap.size w W0:=by subst hW0;exact bpush (bre _) _
 obtain ⟨p6,hp6⟩:∃ p6,gnM 20 G=p6:=⟨_,rfl⟩
 obtain ⟨p7,hp7⟩:∃ p7,bkOk tm G S=p7:=⟨_,rfl⟩
 obtain ⟨p8,hp8⟩:∃ p8,decide (gids S).Nodup=p8:=⟨_,rfl⟩
 rw [hp6,hp7,hp8] at HX
 have HP6:=hid hp6
 have HP7:=hid hp7
 have HP8:=hid hp8
 have c0:=a0.cells
 have HL:=hid hl
 have HN:=hid hn
 have HSB:=hid hsb
 have HR:=hid hm
 have HGL:=hid hgl
 have HGN:=hid hgn
 have HIS:=hid hs
 have A0:=hid a0
 have B0:=hid b0
 clear hl hn hsb hm hgl hgn hs a0 b0 hp6 hp7 hp8
 by_cases h1:1≤y
 case neg =>
  have HE:Hid (sOk y tm S G=false):=by show _=_;rw [HX.out];simp [h1]
  go_enter Tryz.func9,Tryz.ntmps9
  go_wp2
  go_ret
  exact ⟨by rw [HE.out];rfl,B0.out⟩
 by_cases h2:y≤2
 case neg =>
  have HE:Hid (sOk y tm S G=false):=by show _=_;rw [HX.out];simp [h2]
  go_enter Tryz.func9,Tryz.ntmps9
  go_wp2
  go_ret
  exact ⟨by rw [HE.out];rfl,B0.out⟩
 by_cases h3:0≤tm
 case neg =>
  have HE:Hid (sOk y tm S G=false):=by show _=_;rw [HX.out];simp [h3]
  go_enter Tryz.func9,Tryz.ntmps9
  go_wp2
  go_ret
  exact ⟨by rw [HE.out];rfl,B0.out⟩
 by_cases h4:tm≤100000
 case neg =>
  have HE:Hid (sOk y tm S G=false):=by show _=_;rw [HX.out];simp [h4]
  go_enter Tryz.func9,Tryz.ntmps9
  go_wp2
  go_ret
  exact ⟨by rw [HE.out];rfl,B0.out⟩
 have HX:Hid (sOk y tm S G=(p6&&(p7&&p8))):=by show _=_;rw [HX.out];simp [h1,h2,h3,h4]
 go_enter Tryz.func9,Tryz.ntmps9
 go_wp2_with fail
 clear hW0
 refine (goneOkM_any 20 lo' hi' ga gn gc G _ HGL.out HGN.out (HIS.out.later B0.out)).mono ?_;rintro e w5 ⟨rfl,h5⟩
 subst h5
 rw [HP6.out]
 cases p6
 ·have HE:Hid (sOk y tm S G=false):=by show _=_;rw [HX.out];rfl
  go_wp2
  go_ret
  exact ⟨by rw [HE.out];rfl,B0.out⟩
 go_wp2_with fail
 refine (boxesOk_any lo hi lo' hi' y tm ba bn bc ga gn gc S G _ HL.out HN.out HSB.out (HR.out.later B0.out) HGL.out HGN.out (HIS.out.later B0.out)).mono ?_;rintro e w6 ⟨rfl,hb6⟩
 rw [HP7.out]
 have A6:=hid (A0.out.later hb6)
 have B6:=hid (btr B0.out hb6)
 have c0:=A6.out.cells
 clear hb6
 cases p7
 ·have HE:Hid (sOk y tm S G=false):=by show _=_;rw [HX.out];rfl
  go_wp2
  go_ret
  exact ⟨by rw [HE.out];rfl,B6.out⟩
 have HGI:=hid (bk_gids HP7.out)
 go_wp2_with fail
 refine (mailsUnlike_any lo hi ba bn bc S _ HL.out HN.out HSB.out (HR.out.later B6.out) (by have:=HGI.out;omega)).mono ?_;rintro e w7 ⟨rfl,hb7⟩
 rw [HP8.out]
 have B7:=hid (btr B6.out hb7)
 have HE:Hid (sOk y tm S G=p8):=by show _=_;rw [HX.out];simp
 clear hb7 c0
 go_wp2
 go_ret
 exact ⟨by rw [HE.out];rfl,B7.out⟩
end Go.Proofs.YtkbecgcbheopnaaGreat
