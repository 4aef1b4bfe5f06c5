/- Wi, Wj, Tx0, TeX, Utd, Td0, Td1. -/
import Derived.Test.YtdkedgedkgabnaaGreatDoorX38
namespace Go.Proofs.YtdkedgedkgabnaaGreatDoor
open Go.RowKit Go.ChangeMaps
set_option maxHeartbeats 16000000
set_option maxRecDepth 100000
theorem cat_bts (S:List X7):cat (S.map bt7)=bts S:=by
 induction S with
 | nil=>rfl
 | cons x S ih=>simp only [List.map_cons,cat,bts,ih];rfl
theorem bt7_pos (x:X7):0<(bt7 x).size:=by
 unfold bt7 btx bth;simp only [ByteArray.size_append];have:=vi_pos x.1
 omega
def sparts (y tm:Int) (S:List X7) (G:List Int):List ByteArray:=([vi y++vi tm]++(vi S.length::S.map bt7))++(vi G.length::G.map vi)
theorem sparts_cat (y tm:Int) (S:List X7) (G:List Int):cat (sparts y tm S G)=stx y tm S G:=by
 unfold sparts stx;simp only [cat_app,cat,cat_bts,cat_vis,nil_ba,ByteArray.append_assoc]
theorem sparts_pos (y tm:Int) (S:List X7) (G:List Int):∀ x∈sparts y tm S G,0<x.size:=by
 intro x hx;unfold sparts at hx;have h1:=vi_pos y;simp only [List.mem_append,List.mem_cons,List.mem_map,List.not_mem_nil,or_false] at hx
 rcases hx with (rfl | rfl | ⟨m,_,rfl⟩) | rfl | ⟨z,_,rfl⟩
 ·rw [ByteArray.size_append];omega
 ·exact vi_pos _
 ·exact bt7_pos m
 ·exact vi_pos _
 exact vi_pos z
theorem sparts_len (y tm:Int) (S:List X7) (G:List Int):(sparts y tm S G).length=S.length+G.length+3:=by
 unfold sparts;simp only [List.length_append,List.length_cons,List.length_map,List.length_nil]
 omega
theorem implStoreText_any (l1 h1 l2 h2:Nat) (y tm:Int) (ba:Option Addr) (bn bc:Nat) (ga:Option Addr) (gn gc:Nat) (S:List X7) (G:List Int) (w:World) (hl:S.length=bn) (hn:bn≤1048576) (hsb:Sb S) (hm:Bs l1 h1 w ba S) (hgl:G.length=gn) (hgn:gn≤1048576) (hs:Is l2 h2 w ga G) (hnb:Nib w) :
  Calls Tryz.prog 7 #[.agg #[.int .i64 y,.int .i64 tm,.slice ba bn bc,.slice ga gn gc]] w fun e w'=>e=.returned (stR y tm S G)∧Below w.heap.size w w':=by
 obtain ⟨W0,hW0⟩:∃ W0,w.alloc (.cells #[.int .i64 y,.int .i64 tm,.slice ba bn bc,.slice ga gn gc] 27)=W0:=⟨_,rfl⟩
 have XB:Hid (Sx W0 w.heap.size 27 y tm (.slice ba bn bc) (.slice ga gn gc)):=by subst hW0;exact hid (Sx.new w _ _ _ _ _)
 have HB:Hid (Below w.heap.size w W0):=by subst hW0;exact hid (bpush (bre _) _)
 have HM:=hid hm;have HS:=hid hs;have HL:=hid hl;have HG:=hid hgl;have HX:=hid hsb;have HNB:=hid hnb;have c0:=XB.out.cells;have HOK:=hid (implStoreOk_any l1 h1 l2 h2 y tm ba bn bc ga gn gc S G W0 hl hn hsb (hm.later HB.out) hgl hgn (hs.later HB.out));clear hm hs hl hgl hsb hnb
 cases hok:sOk y tm S G
 ·have hE:stR y tm S G=.tuple #[.string ⟨#[]⟩,.bool false]:=by unfold stR;rw [hok];rfl
  rw [hE];rw [hok] at HOK;clear hE hok
  go_enter Tryz.func7,Tryz.ntmps7
  go_wp2_with fail
  try rw [hW0]
  clear hW0;refine HOK.out.mono ?_;rintro e w1 ⟨rfl,hb1⟩;have B1:=hid (btr HB.out hb1);clear hb1 c0
  go_wp2
  go_ret2
  exact ⟨rfl,B1.out⟩
 have hE:stR y tm S G=.tuple #[.string (stx y tm S G++tail4 (stx y tm S G)),.bool true]:=by unfold stR;rw [hok];rfl
 rw [hE];rw [hok] at HOK;have hstx:=stx_size hok;have HZ:Hid ((cat (sparts y tm S G)).size≤1048576):=hid (by rw [sparts_cat];omega);obtain ⟨p1,p2,p3,p4,p5,p6⟩:=st_txt hok;obtain ⟨x1,e1,z1,C1⟩:=texts2 y tm (by omega) (by omega);have P4:=hid p4;have P8:Hid (∀ y∈G,0≤y∧y≤1000000000):=hid (fun y hy=>by have:=p6 y hy;omega);have HN:=hid hn;have HGN:=hid hgn;have HN2:Hid (bn+gn≤25):=hid (by rw [HL.out] at p3;rw [HG.out] at p5;omega);obtain ⟨lm,hlm⟩:∃ l,(vi bn::S.map bt7)=l:=⟨_,rfl⟩;obtain ⟨lg,hlg⟩:∃ l,(vi gn::G.map vi)=l:=⟨_,rfl⟩;have HLM:Hid (lm.length=bn+1):=hid (by rw [← hlm];simp only [List.length_cons,List.length_map];rw [HL.out]);have HLG:Hid (lg.length=gn+1):=hid (by rw [← hlg];simp only [List.length_cons,List.length_map];rw [HG.out]);have HP:Hid (([x1]++lm)++lg=sparts y tm S G):=hid (by rw [← hlm,← hlg,e1.out,← HL.out,← HG.out];rfl);have CM:=hid (fun (W:World) (h:Bs l1 h1 W ba S)=>ltBoxes_any l1 h1 ba bn bc S W HL.out HN.out HX.out h P4.out);have CG:=hid (fun (W:World) (h:Is l2 h2 W ga G)=>ltInts_any l2 h2 ga gn gc G W HG.out HGN.out h P8.out);rw [hlm] at CM;rw [hlg] at CG;obtain ⟨z,hz⟩:∃ z,stx y tm S G=z:=⟨_,rfl⟩;have HZZ:=hid hz;obtain ⟨z2,hz2⟩:∃ t,z++tail4 z=t:=⟨_,rfl⟩;have HZ2:=hid hz2;have CS:Hid (∀ W,Nib W→Calls Tryz.prog 33 #[.string z] W fun e w'=>e=.returned (.tuple #[.string z2,.bool true])∧Below W.heap.size W w'):=hid (fun W h=>by rw [← hz2];exact implSealed_yes z W (by rw [← hz];omega) h);clear hlm hlg hz hz2;clear hE hok hn hgn p1 p2 p3 p4 p5 p6 z1 hstx
 go_enter Tryz.func7,Tryz.ntmps7
 go_wp2_with fail
 try rw [hW0]
 clear hW0;refine HOK.out.mono ?_;rintro e w1 ⟨rfl,hb1⟩;replace XB:=hid (XB.out.later hb1);replace HB:=hid (btr HB.out hb1);clear hb1 c0 HOK;have c0:=XB.out.cells
 go_wp2_with fail
 refine (C1.out _ _ rfl).mono ?_;rintro e w2 ⟨rfl,hb2⟩;replace XB:=hid (XB.out.later hb2);replace HB:=hid (btr HB.out hb2);have hlt:=XB.out.lt;have OO:Hid (OwR (w2.alloc (.cells #[.string x1] 9)) (w.heap.size+1) (.slice (some ⟨w2.heap.size,0,none⟩) 1 1) [x1]):=hid (own_base (ownR_one w2 x1) (by omega));replace XB:=hid (XB.out.later (bpush (bre w2) (.cells #[.string x1] 9)));replace HB:=hid (bpush HB.out (.cells #[.string x1] 9));clear hb2 c0 hlt;have c5:=XB.out.cells
 go_wp2_with fail
 refine (CM.out _ (HM.out.later HB.out)).mono ?_;rintro e u1 ⟨vm,rfl,hom,hbm⟩;obtain ⟨gm,cm,hvm,hgm,_,hcm⟩:=hom.shape (by rw [HLM.out];omega);subst hvm;replace XB:=hid (XB.out.later hbm);replace HB:=hid (btr HB.out hbm);replace OO:=hid (own_later OO.out hbm);have HCM:=hid hcm;have hsz:=HB.out.size;have hxl:=XB.out.lt;rw [HLM.out];clear hom hbm hgm hcm c5
 go_wp2_with (at_builtin;refine wpList_append_strs u1 rfl (.tmp 15) (.tmp 18) rfl (w.heap.size+1) _ [x1] lm (by rfl) OO.out gm (bn+1) cm HLM.out (by rfl) HCM.out (by simp) (by have:=HN.out;omega) (by omega) ?_;intro v5 w5 hown5 hb5;have XB5:Sx w5 w.heap.size 27 y tm (.slice ba bn bc) (.slice ga gn gc):=(hb5.block _ (by omega)).trans XB.out;have c5:=XB5.cells;have HO5:=hid hown5;have HB5:=hid (HB.out.trans (hb5.mono (by omega)));clear hown5 hb5)
 refine (CG.out _ (HS.out.later HB5.out)).mono ?_;rintro e u2 ⟨vg,rfl,hog,hbg⟩;obtain ⟨gg,cg,hvg,hgg,_,hcg⟩:=hog.shape (by rw [HLG.out];omega);subst hvg;replace XB:=hid (XB5.later hbg);replace HB:=hid (btr HB5.out hbg);replace OO:=hid (own_later HO5.out hbg);have HCG:=hid hcg;replace hsz:=HB.out.size;replace hxl:=XB.out.lt;rw [HLG.out];clear hog hbg hgg hcg c5 XB5 HB5 HO5
 go_wp2_with (at_builtin;refine wpList_append_strs u2 rfl (.tmp 20) (.tmp 23) rfl (w.heap.size+1) _ ([x1]++lm) lg (by rfl) OO.out gg (gn+1) cg HLG.out (by rfl) HCG.out (by rw [List.length_append,HLM.out];have:=HN.out;simp;omega) (by have:=HGN.out;omega) (by omega) ?_;intro v6 w6 hown6 hb6;rw [HP.out] at hown6;have HB6:=hid (HB.out.trans (hb6.mono (by omega)));obtain ⟨g6,c6,hv6,hg6,_,hc6⟩:=hown6.shape (by rw [sparts_len];omega);subst hv6;have HC6:=hid hc6;have HG6:=hid hg6;obtain ⟨n6,hn6⟩:∃ n,(sparts y tm S G).length=n:=⟨_,rfl⟩;rw [hn6];have HN6:=hid hn6;clear hown6 hb6 hc6 hg6 hn6)
 refine (moved_any g6 n6 c6 (sparts y tm S G) w6 HN6.out (by rw [← HN6.out,sparts_len,HL.out,HG.out];have h1:=HN2.out;omega) HG6.out HC6.out (sparts_pos y tm S G) HZ.out).mono ?_;rintro e w7 ⟨rfl,hb7⟩;have B7:=hid (btr HB6.out hb7);rw [sparts_cat,HZZ.out];clear hb7
 go_wp2_with fail
 refine (CS.out _ (HNB.out.on B7.out)).mono ?_;rintro e w8 ⟨rfl,hb8⟩;have B8:=hid (btr B7.out hb8);clear hb8
 go_wp2
 go_ret2
 exact ⟨by rw [HZZ.out,HZ2.out];rfl,B8.out⟩
def txo (y tm:Int) (S:List X7) (G:List Int):ByteArray:=if sOk y tm S G=true then stx y tm S G++tail4 (stx y tm S G) else ⟨#[]⟩
theorem stR_txo (y tm:Int) (S:List X7) (G:List Int):stR y tm S G=.tuple #[.string (txo y tm S G),.bool (sOk y tm S G)]:=by
 unfold stR txo
 cases sOk y tm S G <;> rfl
theorem txo_same (y tm:Int) (S:List X7) (G:List Int) (y' tm':Int) (S':List X7) (G':List Int):txo y tm S G=txo y' tm' S' G'↔stR y tm S G=stR y' tm' S' G':=by
 rw [stR_txo,stR_txo]
 constructor
 ·intro h
  have hk:sOk y tm S G=sOk y' tm' S' G':=by
   have h2:=congrArg ByteArray.size h;unfold txo at h2
   cases h3:sOk y tm S G <;> cases h4:sOk y' tm' S' G' <;> simp only [h3,h4,if_true,Bool.false_eq_true,if_false,ByteArray.size_append] at h2
   ·rfl
   ·have:=tail4_len (stx y' tm' S' G');have h5:(⟨#[]⟩:ByteArray).size=0:=rfl;omega
   ·have:=tail4_len (stx y tm S G);have h5:(⟨#[]⟩:ByteArray).size=0:=rfl;omega
   rfl
  rw [h,hk]
 intro h;simp only [Value.tuple.injEq,Array.mk.injEq,List.cons.injEq,Value.string.injEq] at h;exact h.1
theorem implSameStore_any (l1 h1 l2 h2 l3 h3 l4 h4:Nat) (y tm:Int) (ba:Option Addr) (bn bc:Nat) (ga:Option Addr) (gn gc:Nat) (S:List X7) (G:List Int) (y' tm':Int) (ba':Option Addr) (bn' bc':Nat) (ga':Option Addr) (gn' gc':Nat) (S':List X7) (G':List Int) (w:World)
  (hl:S.length=bn) (hn:bn≤1048576) (hsb:Sb S) (hm:Bs l1 h1 w ba S) (hgl:G.length=gn) (hgn:gn≤1048576) (hs:Is l2 h2 w ga G) (hl':S'.length=bn') (hn':bn'≤1048576) (hsb':Sb S') (hm':Bs l3 h3 w ba' S') (hgl':G'.length=gn') (hgn':gn'≤1048576) (hs':Is l4 h4 w ga' G') (hnb:Nib w) :
  Calls Tryz.prog 21 #[.agg #[.int .i64 y,.int .i64 tm,.slice ba bn bc,.slice ga gn gc],.agg #[.int .i64 y',.int .i64 tm',.slice ba' bn' bc',.slice ga' gn' gc']] w fun e w'=>Rt (stR y tm S G=stR y' tm' S' G') e∧Below w.heap.size w w':=by
 obtain ⟨W0,hW0⟩:∃ W0,(w.alloc (.cells #[.int .i64 y,.int .i64 tm,.slice ba bn bc,.slice ga gn gc] 27)).alloc (.cells #[.int .i64 y',.int .i64 tm',.slice ba' bn' bc',.slice ga' gn' gc'] 27)=W0:=⟨_,rfl⟩
 have XA:Hid (Sx W0 w.heap.size 27 y tm (.slice ba bn bc) (.slice ga gn gc)):=by subst hW0;exact hid ((Sx.new w _ _ _ _ _).later (bpush (bre _) _))
 have XB:Hid (Sx W0 (w.heap.size+1) 27 y' tm' (.slice ba' bn' bc') (.slice ga' gn' gc')):=by
  subst hW0;have h:=Sx.new (w.alloc (.cells #[.int .i64 y,.int .i64 tm,.slice ba bn bc,.slice ga gn gc] 27)) 27 y' tm' (.slice ba' bn' bc') (.slice ga' gn' gc');rw [alloc_size w] at h;exact hid h
 have HB:Hid (Below w.heap.size w W0):=by subst hW0;exact hid (bpush (bpush (bre _) _) _)
 have C1:=implStoreText_any l1 h1 l2 h2 y tm ba bn bc ga gn gc S G W0 hl hn hsb (hm.later HB.out) hgl hgn (hs.later HB.out) (hnb.on HB.out);have C2:=hid (fun (W:World) (hb:Below w.heap.size w W)=>implStoreText_any l3 h3 l4 h4 y' tm' ba' bn' bc' ga' gn' gc' S' G' W hl' hn' hsb' (hm'.later hb) hgl' hgn' (hs'.later hb) (hnb.on hb));have HT:=hid (txo_same y tm S G y' tm' S' G');rw [stR_txo] at C1;rw [stR_txo y' tm' S' G'] at C2;obtain ⟨x1,hx1⟩:∃ x,txo y tm S G=x:=⟨_,rfl⟩;obtain ⟨x2,hx2⟩:∃ x,txo y' tm' S' G'=x:=⟨_,rfl⟩;obtain ⟨q1,hq1⟩:∃ q,sOk y tm S G=q:=⟨_,rfl⟩;obtain ⟨q2,hq2⟩:∃ q,sOk y' tm' S' G'=q:=⟨_,rfl⟩;rw [hx1,hq1] at C1;rw [hx2,hq2] at C2;rw [hx1,hx2] at HT;have HC1:=hid C1;have c0:=XA.out.cells;clear hl hn hsb hm hgl hgn hs hl' hn' hsb' hm' hgl' hgn' hs' hnb hx1 hx2 hq1 hq2 C1
 go_enter Tryz.func21,Tryz.ntmps21
 go_wp2_with fail
 try rw [hW0]
 clear hW0;refine HC1.out.mono ?_;rintro e w1 ⟨rfl,hb1⟩;replace XB:=hid (XB.out.later hb1);replace HB:=hid (btr HB.out hb1);clear hb1 c0 HC1 XA;have c1:=XB.out.cells
 go_wp2_with fail
 refine (C2.out _ HB.out).mono ?_;rintro e w2 ⟨rfl,hb2⟩;have B2:=hid (btr HB.out hb2);clear hb2 c1 HB
 by_cases hx:x1=x2
 ·go_wp2
  go_ret
  exact ⟨⟨_,rfl,by simpa [hx] using HT.out.1 hx⟩,B2.out⟩
 go_wp2
 go_ret
 exact ⟨⟨_,rfl,⟨fun h=>absurd (bytes_eq (by simpa using h)) hx,fun h=>absurd (HT.out.2 h) hx⟩⟩,B2.out⟩
theorem stR_k (y tm:Int) (S:List X7) (G:List Int):∃ (x:ByteArray) (c:Bool),stR y tm S G=.tuple #[.string x,.bool c]∧x.size≤4565∧c=sOk y tm S G∧(c=true→x=stx y tm S G++tail4 (stx y tm S G)):=by
 unfold stR
 by_cases h:sOk y tm S G=true
 ·rw [if_pos h]
  exact ⟨_,_,rfl,by rw [ByteArray.size_append,tail4_size];have:=stx_size h;omega,h.symm,fun _=>rfl⟩
 rw [if_neg h];exact ⟨_,_,rfl,by decide,by simpa using h,fun h=>by cases h⟩
theorem btR_k (g:Int) (nm:ByteArray) (t b nx:Int) (L:List M4) (G:List Int):∃ (x:ByteArray) (c:Bool),btR g nm t b nx L G=.tuple #[.string x,.bool c]∧x.size≤903∧c=bxOk g nm t b nx L G∧(c=true→x=btx g nm t b nx L G):=by
 unfold btR
 by_cases h:bxOk g nm t b nx L G=true
 ·rw [if_pos h]
  exact ⟨_,_,rfl,btx_size h,h.symm,fun _=>rfl⟩
 rw [if_neg h];exact ⟨_,_,rfl,by decide,by simpa using h,fun h=>by cases h⟩
theorem bigM_no (ao:Option Addr) (n cap:Nat) (w:World) (hn:n≤1048576):Calls Tryz.prog 5 #[.slice ao n cap] w fun e w'=>e=.returned (.bool false)∧w'=w:=by
 go_enter Tryz.func5,Tryz.ntmps5
 go_wp2
 go_ret
 exact ⟨by simp;omega,rfl⟩
theorem bigM_yes (ao:Option Addr) (n cap:Nat) (w:World) (hn:1048576<n):Calls Tryz.prog 5 #[.slice ao n cap] w fun e w'=>e=.returned (.bool true)∧w'=w:=by
 go_enter Tryz.func5,Tryz.ntmps5
 go_wp2
 go_ret
 exact ⟨by simp;omega,rfl⟩
theorem l09Box_any (l1 h1 l2 h2 l3 h3 l4 h4:Nat) (g:Int) (nm:ByteArray) (t b nx:Int) (ma:Option Addr) (mn mc:Nat) (ga:Option Addr) (gn gc:Nat) (ma':Option Addr) (mc':Nat) (ga':Option Addr) (gc':Nat) (L:List M4) (G:List Int) (w:World) (hl:L.length=mn) (hn:mn≤1048576) (hsm:Sm L) (hm:Ms l1 h1 w ma L) (hm':Ms l2 h2 w ma' L)
  (hgl:G.length=gn) (hgn:gn≤1048576) (hs:Is l3 h3 w ga G) (hs':Is l4 h4 w ga' G) :
  Calls Tryz.prog 110 #[.agg #[.int .i64 g,.string nm,.int .i64 t,.int .i64 b,.int .i64 nx,.slice ma mn mc,.slice ga gn gc],.agg #[.int .i64 g,.string nm,.int .i64 t,.int .i64 b,.int .i64 nx,.slice ma' mn mc',.slice ga' gn gc']] w fun e w'=>e=.returned (.bool true)∧Below w.heap.size w w':=by
 obtain ⟨W0,hW0⟩:∃ W0,((w.alloc (.cells #[.int .i64 g,.string nm,.int .i64 t,.int .i64 b,.int .i64 nx,.slice ma mn mc,.slice ga gn gc] 38)).alloc (.cells #[.int .i64 g,.string nm,.int .i64 t,.int .i64 b,.int .i64 nx,.slice ma' mn mc',.slice ga' gn gc'] 38))=W0:=⟨_,rfl⟩;obtain ⟨a0,a1,b0,_⟩:=two_boxes w _ _ _ _ _ _ _ _ _ _ _ _ _ _ _ _ W0 hW0;have A0:=hid a0;have A1:=hid a1;have B0:=hid b0;have c0:=a0.cells;have c1:=a1.cells;have HM:=hid hm;have HM':=hid hm';have HS:=hid hs;have HS':=hid hs';have HX:=hid hsm;have HL:=hid hl
 have e1:(g != g)=false:=by simp
 have e2:(nx != nx)=false:=by simp
 have e3:(!nm.toList == nm.toList)=false:=by simp
 have e4:(t != t)=false:=by simp
 have e5:(b != b)=false:=by simp
 have e6:((mn:Int) != (mn:Int))=false:=by simp
 clear a0 a1 b0 hm hm' hs hs' hsm hl
 go_enter Tryz.func110,Tryz.ntmps110
 have e7:((gn:Int) != (gn:Int))=false:=by simp
 go_wp2
 clear c0 c1 e1 e2 e3 e4 e5 e6 e7
 try rw [hW0]
 clear hW0
 go_loopw [5] (fun iv wr=>∃ i:Nat,i≤mn∧iv=.int .i64 (i:Int)∧Bx wr w.heap.size 38 g nm t b nx (.slice ma mn mc) (.slice ga gn gc)∧Bx wr (w.heap.size+1) 38 g nm t b nx (.slice ma' mn mc') (.slice ga' gn gc')∧Below w.heap.size w wr) (fun iv _=>mn - (intOf iv).toNat)
 case atStart=>exact ⟨0,Nat.zero_le _,rfl,A0.out,A1.out,B0.out⟩
 case round =>
  obtain ⟨i,hi,rfl,hk0,hk1,hb⟩:=hrel;have A0:=hid hk0;have A1:=hid hk1;have HBE:=hid hb;have c0:=hk0.cells;clear hk0 hk1 hb B0
  by_cases hlt:i<mn
  ·have hil:i<L.length:=by rw [HL.out];exact hlt
   obtain ⟨k,o,fa,fc,rfl,hk,c,hr1,_⟩:=(HM.out.later HBE.out).at hil;obtain ⟨k',o',fa',fc',rfl,hk',d,hr2,_⟩:=(HM'.out.later HBE.out).at hil;have hmem:=HX.out L[i] (List.getElem_mem hil);obtain ⟨p,hp⟩:∃ p,L[i]=p:=⟨_,rfl⟩;rw [hp] at c d hr1 hr2 hmem;obtain ⟨g2,u,l,tx⟩:=p;dsimp only at c d hr1 hr2 hmem;obtain ⟨m,hm⟩:∃ m,l.length=m:=⟨_,rfl⟩;rw [hm] at c d
   have HMM:Hid (m≤1048576):=by show _≤_;rw [← hm];exact hmem.1
   have HLM:=hid hm;have HR1:=hid hr1;have HR2:=hid hr2;clear hp hm hmem hr1 hr2
   have hI:(0:Int)≤(i:Int)∧(i:Int)<(mn:Int):=by omega
   have HSS:Hid (∀ W,Below wr.heap.size wr W→((W.cell? ⟨w.heap.size,5,none⟩=some (.slice (some ⟨k,o,none⟩) mn mc)∧W.cell? ⟨w.heap.size+1,5,none⟩=some (.slice (some ⟨k',o',none⟩) mn mc'))∧W.cell? ⟨k,o+i*4,none⟩=some (.int .i64 g2)∧W.cell? ⟨k,o+i*4+1,none⟩=some (.int .i64 u)∧W.cell? ⟨k,o+i*4+2,none⟩=some (.slice fa m fc)∧W.cell? ⟨k,o+i*4+3,none⟩=some (.string tx))∧(W.cell? ⟨k',o'+i*4,none⟩=some (.int .i64 g2)∧W.cell? ⟨k',o'+i*4+1,none⟩=some (.int .i64 u)∧W.cell? ⟨k',o'+i*4+2,none⟩=some (.slice fa' m fc')∧W.cell? ⟨k',o'+i*4+3,none⟩=some (.string tx))) :=
    fun W h=>⟨⟨⟨(A0.out.later h).cells.2.2.2.2.2.1,(A1.out.later h).cells.2.2.2.2.2.1⟩,C4.later c hk h⟩,C4.later d hk' h⟩
   clear c d
   go_wp2_with fail
   go_region_held3 (fun W=>((W.cell? ⟨w.heap.size,5,none⟩=some (.slice (some ⟨k,o,none⟩) mn mc)∧W.cell? ⟨w.heap.size+1,5,none⟩=some (.slice (some ⟨k',o',none⟩) mn mc'))∧W.cell? ⟨k,o+i*4,none⟩=some (.int .i64 g2)∧W.cell? ⟨k,o+i*4+1,none⟩=some (.int .i64 u)∧W.cell? ⟨k,o+i*4+2,none⟩=some (.slice fa m fc)∧W.cell? ⟨k,o+i*4+3,none⟩=some (.string tx))∧(W.cell? ⟨k',o'+i*4,none⟩=some (.int .i64 g2)∧W.cell? ⟨k',o'+i*4+1,none⟩=some (.int .i64 u)∧W.cell? ⟨k',o'+i*4+2,none⟩=some (.slice fa' m fc')∧W.cell? ⟨k',o'+i*4+3,none⟩=some (.string tx)))
    ((refine HSS.out _ ?_;repeat (first | exact bdr (bre _) | refine btr ?_ (by assumption))))
    ((go_at_call 68;refine (specSame_any g2 u fa m fc l tx g2 u fa' m fc' l tx _ HLM.out HLM.out HMM.out (HR1.out.later (by repeat (first | exact bdr (bre _) | exact bre _ | refine btr ?_ (by assumption)))) (HR2.out.later (by repeat (first | exact bdr (bre _) | exact bre _ | refine btr ?_ (by assumption))))).mono ?_;rintro e w1 ⟨rfl,hb1⟩;rw [smail_self]))
   have HB1:Hid (Below wr.heap.size wr w1):=by show Below _ _ _;repeat (first | exact bdr (bre _) | refine btr ?_ (by assumption))
   clear c0
   go_wp2
   go_roundw
   case rel=>exact ⟨i+1,by omega,by go_num,A0.out.later HB1.out,A1.out.later HB1.out,btr HBE.out HB1.out⟩
   case measure=>simp [intOf];omega
  go_wp2
  clear c0
  go_loopw [6] (fun iv wr=>∃ i:Nat,i≤gn∧iv=.int .i64 (i:Int)∧Bx wr w.heap.size 38 g nm t b nx (.slice ma mn mc) (.slice ga gn gc)∧Bx wr (w.heap.size+1) 38 g nm t b nx (.slice ma' mn mc') (.slice ga' gn gc')∧Below w.heap.size w wr) (fun iv _=>gn - (intOf iv).toNat)
  case atStart=>exact ⟨0,Nat.zero_le _,rfl,A0.out,A1.out,HBE.out⟩
  case round =>
   obtain ⟨j,hj,rfl,hk0,hk1,hb⟩:=hrel;have A0:=hid hk0;have A1:=hid hk1;have HBE:=hid hb;have c0:=hk0.cells;have c1:=hk1.cells;clear hk0 hk1 hb
   by_cases hlt2:j<gn
   ·have hjl:j<G.length:=by rw [hgl];exact hlt2
    obtain ⟨k,o,rfl,hk,c⟩:=(HS.out.later HBE.out).at hjl;obtain ⟨k',o',rfl,hk',d⟩:=(HS'.out.later HBE.out).at hjl;obtain ⟨x,hx⟩:∃ x,G[j]=x:=⟨_,rfl⟩;rw [hx] at c d;clear hx
    have hI:(0:Int)≤(j:Int)∧(j:Int)<(gn:Int):=by omega
    have hxx:(x != x)=false:=by simp
    go_wp2_with fail
    go_quiet (fail)
    clear c0 c1
    go_wp2
    go_roundw
    case rel=>exact ⟨j+1,by omega,by go_num,A0.out.later (bdn (bre _) _),A1.out.later (bdn (bre _) _),bdn HBE.out _⟩
    case measure=>simp [intOf];omega
   go_wp2
   go_ret
   exact ⟨rfl,HBE.out⟩
theorem two_stz (w:World) (y tm:Int) (bv gv bv' gv':Value) (W0:World) (h:(w.alloc (.cells #[.int .i64 y,.int .i64 tm,bv,gv] 27)).alloc (.cells #[.int .i64 y,.int .i64 tm,bv',gv'] 27)=W0):Sx W0 w.heap.size 27 y tm bv gv∧Sx W0 (w.heap.size+1) 27 y tm bv' gv'∧Below w.heap.size w W0:=by
 subst h;refine ⟨(Sx.new w 27 y tm bv gv).later (bpush (bre _) _),?_,bpush (bpush (bre _) _) _⟩;have h:=Sx.new (w.alloc (.cells #[.int .i64 y,.int .i64 tm,bv,gv] 27)) 27 y tm bv' gv'
 simpa using h
theorem alike_any (l1 h1 l2 h2:Nat) (y tm:Int) (ba:Option Addr) (bn bc:Nat) (ga:Option Addr) (gn gc:Nat) (ba':Option Addr) (bc':Nat) (ga':Option Addr) (gc':Nat) (S:List X7) (G:List Int) (w:World) (h1t:Tg w l1 h1 ba bn bc ga gn gc S G) (h2t:Tg w l2 h2 ba' bn bc' ga' gn gc' S G) :
  Calls Tryz.prog 62 #[.agg #[.int .i64 y,.int .i64 tm,.slice ba bn bc,.slice ga gn gc],.agg #[.int .i64 y,.int .i64 tm,.slice ba' bn bc',.slice ga' gn gc']] w fun e w'=>e=.returned (.bool true)∧Below w.heap.size w w':=by
 obtain ⟨W0,hW0⟩:∃ W0,((w.alloc (.cells #[.int .i64 y,.int .i64 tm,.slice ba bn bc,.slice ga gn gc] 27)).alloc (.cells #[.int .i64 y,.int .i64 tm,.slice ba' bn bc',.slice ga' gn gc'] 27))=W0:=⟨_,rfl⟩;obtain ⟨a0,a1,b0⟩:=two_stz w _ _ _ _ _ _ W0 hW0;have A0:=hid a0;have A1:=hid a1;have B0:=hid b0;have c0:=a0.cells;have c1:=a1.cells;have H1:=hid h1t;have H2:=hid h2t;have hbm:=h1t.most;have hgm:=h1t.gmost
 have e1:((bn:Int) != (bn:Int))=false:=by simp
 have e2:((gn:Int) != (gn:Int))=false:=by simp
 clear a0 a1 b0 h1t h2t
 go_enter Tryz.func62,Tryz.ntmps62
 go_wp2
 clear c0 c1 e1 e2
 try rw [hW0]
 clear hW0
 go_loopw [5] (fun iv wr=>∃ i:Nat,i≤bn∧iv=.int .i64 (i:Int)∧Sx wr w.heap.size 27 y tm (.slice ba bn bc) (.slice ga gn gc)∧Sx wr (w.heap.size+1) 27 y tm (.slice ba' bn bc') (.slice ga' gn gc')∧Below w.heap.size w wr) (fun iv _=>bn - (intOf iv).toNat)
 case atStart=>exact ⟨0,Nat.zero_le _,rfl,A0.out,A1.out,B0.out⟩
 case round =>
  obtain ⟨i,hi,rfl,hk0,hk1,hb⟩:=hrel;have A0:=hid hk0;have A1:=hid hk1;have HBE:=hid hb;have c0:=hk0.cells;clear hk0 hk1 hb B0
  by_cases hlt:i<bn
  ·have hil:i<S.length:=by rw [H1.out.len];exact hlt
   obtain ⟨k,o,ma,mc,ha,hc,rfl,hk,c,m1,g1,_⟩:=(H1.out.later HBE.out).boxes.at hil;obtain ⟨k',o',ma',mc',ha',hc',rfl,hk',d,m2,g2,_⟩:=(H2.out.later HBE.out).boxes.at hil;have hs:=H1.out.sb _ (List.getElem_mem hil);obtain ⟨p,hp⟩:∃ p,S[i]=p:=⟨_,rfl⟩;rw [hp] at c d m1 m2 g1 g2 hs;obtain ⟨g,nm,t,b,nx,L,H⟩:=p;dsimp only at c d m1 m2 g1 g2 hs;obtain ⟨mn,hmn⟩:∃ m,L.length=m:=⟨_,rfl⟩;obtain ⟨hn9,hhn⟩:∃ m,H.length=m:=⟨_,rfl⟩;rw [hmn,hhn] at c d hs;have HL:=hid hmn;have HH:=hid hhn;have HSB:=hid hs;have M1:=hid m1;have M2:=hid m2;have G1:=hid g1;have G2:=hid g2;clear hp hmn hhn hs m1 m2 g1 g2
   have hI:(0:Int)≤(i:Int)∧(i:Int)<(bn:Int):=by omega
   have HSS:Hid (∀ W,Below wr.heap.size wr W→((W.cell? ⟨w.heap.size,2,none⟩=some (.slice (some ⟨k,o,none⟩) bn bc)∧W.cell? ⟨w.heap.size+1,2,none⟩=some (.slice (some ⟨k',o',none⟩) bn bc'))∧(W.cell? ⟨k,o+i*7,none⟩=some (.int .i64 g)∧W.cell? ⟨k,o+i*7+1,none⟩=some (.string nm)∧W.cell? ⟨k,o+i*7+2,none⟩=some (.int .i64 t)∧W.cell? ⟨k,o+i*7+3,none⟩=some (.int .i64 b)∧W.cell? ⟨k,o+i*7+4,none⟩=some (.int .i64 nx)∧W.cell? ⟨k,o+i*7+5,none⟩=some (.slice ma mn mc)∧W.cell? ⟨k,o+i*7+6,none⟩=some (.slice ha hn9 hc)))∧(W.cell? ⟨k',o'+i*7,none⟩=some (.int .i64 g)∧W.cell? ⟨k',o'+i*7+1,none⟩=some (.string nm)∧W.cell? ⟨k',o'+i*7+2,none⟩=some (.int .i64 t)∧W.cell? ⟨k',o'+i*7+3,none⟩=some (.int .i64 b)∧W.cell? ⟨k',o'+i*7+4,none⟩=some (.int .i64 nx)∧W.cell? ⟨k',o'+i*7+5,none⟩=some (.slice ma' mn mc')∧W.cell? ⟨k',o'+i*7+6,none⟩=some (.slice ha' hn9 hc'))) :=
    fun W h=>⟨⟨⟨(A0.out.later h).cells.2.2.1,(A1.out.later h).cells.2.2.1⟩,C7.later c hk h⟩,C7.later d hk' h⟩
   clear c d
   go_wp2_with fail
   go_region_held3 (fun W=>((W.cell? ⟨w.heap.size,2,none⟩=some (.slice (some ⟨k,o,none⟩) bn bc)∧W.cell? ⟨w.heap.size+1,2,none⟩=some (.slice (some ⟨k',o',none⟩) bn bc'))∧(W.cell? ⟨k,o+i*7,none⟩=some (.int .i64 g)∧W.cell? ⟨k,o+i*7+1,none⟩=some (.string nm)∧W.cell? ⟨k,o+i*7+2,none⟩=some (.int .i64 t)∧W.cell? ⟨k,o+i*7+3,none⟩=some (.int .i64 b)∧W.cell? ⟨k,o+i*7+4,none⟩=some (.int .i64 nx)∧W.cell? ⟨k,o+i*7+5,none⟩=some (.slice ma mn mc)∧W.cell? ⟨k,o+i*7+6,none⟩=some (.slice ha hn9 hc)))∧(W.cell? ⟨k',o'+i*7,none⟩=some (.int .i64 g)∧W.cell? ⟨k',o'+i*7+1,none⟩=some (.string nm)∧W.cell? ⟨k',o'+i*7+2,none⟩=some (.int .i64 t)∧W.cell? ⟨k',o'+i*7+3,none⟩=some (.int .i64 b)∧W.cell? ⟨k',o'+i*7+4,none⟩=some (.int .i64 nx)∧W.cell? ⟨k',o'+i*7+5,none⟩=some (.slice ma' mn mc')∧W.cell? ⟨k',o'+i*7+6,none⟩=some (.slice ha' hn9 hc')))
    ((refine HSS.out _ ?_;repeat (first | exact bdr (bre _) | refine btr ?_ (by assumption))))
    ((go_at_call 110;refine (l09Box_any _ _ _ _ _ _ _ _ g nm t b nx ma mn mc ha hn9 hc ma' mc' ha' hc' L H _ HL.out HSB.out.2.1 HSB.out.2.2.1 (M1.out.later (by repeat (first | exact bdr (bre _) | exact bre _ | refine btr ?_ (by assumption)))) (M2.out.later (by repeat (first | exact bdr (bre _) | exact bre _ | refine btr ?_ (by assumption)))) HH.out HSB.out.2.2.2 (G1.out.later (by repeat (first | exact bdr (bre _) | exact bre _ | refine btr ?_ (by assumption)))) (G2.out.later (by repeat (first | exact bdr (bre _) | exact bre _ | refine btr ?_ (by assumption))))).mono ?_;rintro e w1 ⟨rfl,hb1⟩))
   have HB1:Hid (Below wr.heap.size wr w1):=by show Below _ _ _;repeat (first | exact bdr (bre _) | refine btr ?_ (by assumption))
   clear c0
   go_wp2
   go_roundw
   case rel=>exact ⟨i+1,by omega,by go_num,A0.out.later HB1.out,A1.out.later HB1.out,btr HBE.out HB1.out⟩
   case measure=>simp [intOf];omega
  go_wp2
  clear c0
  go_loopw [6] (fun iv wr=>∃ i:Nat,i≤gn∧iv=.int .i64 (i:Int)∧Sx wr w.heap.size 27 y tm (.slice ba bn bc) (.slice ga gn gc)∧Sx wr (w.heap.size+1) 27 y tm (.slice ba' bn bc') (.slice ga' gn gc')∧Below w.heap.size w wr) (fun iv _=>gn - (intOf iv).toNat)
  case atStart=>exact ⟨0,Nat.zero_le _,rfl,A0.out,A1.out,HBE.out⟩
  case round =>
   obtain ⟨j,hj,rfl,hk0,hk1,hb⟩:=hrel;have A0:=hid hk0;have A1:=hid hk1;have HBE:=hid hb;have c0:=hk0.cells;have c1:=hk1.cells;clear hk0 hk1 hb
   by_cases hlt2:j<gn
   ·have hjl:j<G.length:=by rw [H1.out.glen];exact hlt2
    obtain ⟨k,o,rfl,hk,c⟩:=(H1.out.later HBE.out).gone.at hjl;obtain ⟨k',o',rfl,hk',d⟩:=(H2.out.later HBE.out).gone.at hjl;obtain ⟨x,hx⟩:∃ x,G[j]=x:=⟨_,rfl⟩;rw [hx] at c d;clear hx
    have hI:(0:Int)≤(j:Int)∧(j:Int)<(gn:Int):=by omega
    have hxx:(x != x)=false:=by simp
    go_wp2_with fail
    go_quiet (fail)
    clear c0 c1
    go_wp2
    go_roundw
    case rel=>exact ⟨j+1,by omega,by go_num,A0.out.later (bdn (bre _) _),A1.out.later (bdn (bre _) _),bdn HBE.out _⟩
    case measure=>simp [intOf];omega
   go_wp2
   go_ret
   exact ⟨rfl,HBE.out⟩
theorem sameAll_any (y tm:Int) (ba:Option Addr) (bn bc:Nat) (ga:Option Addr) (gn gc:Nat) (ba':Option Addr) (bc':Nat) (ga':Option Addr) (gc':Nat) (S:List X7) (G:List Int) (w:World) (h1t:Tz w ba bn bc ga gn gc S G) (h2t:Tz w ba' bn bc' ga' gn gc' S G) :
  Calls Tryz.prog 18 #[.agg #[.int .i64 y,.int .i64 tm,.slice ba bn bc,.slice ga gn gc],.agg #[.int .i64 y,.int .i64 tm,.slice ba' bn bc',.slice ga' gn gc']] w fun e w'=>e=.returned (.bool true)∧Below w.heap.size w w':=by
 obtain ⟨W0,hW0⟩:∃ W0,((w.alloc (.cells #[.int .i64 y,.int .i64 tm,.slice ba bn bc,.slice ga gn gc] 27)).alloc (.cells #[.int .i64 y,.int .i64 tm,.slice ba' bn bc',.slice ga' gn gc'] 27))=W0:=⟨_,rfl⟩;obtain ⟨a0,a1,b0⟩:=two_stz w _ _ _ _ _ _ W0 hW0;have B0:=hid b0;have c0:=a0.cells;have c1:=a1.cells;have H1:=hid h1t;have H2:=hid h2t;clear a0 a1 b0 h1t h2t
 go_enter Tryz.func18,Tryz.ntmps18
 go_wp2_with fail
 try rw [hW0]
 clear hW0;obtain ⟨l1,h1,t1⟩:=H1.out.later B0.out;obtain ⟨l2,h2,t2⟩:=H2.out.later B0.out;refine (alike_any l1 h1 l2 h2 y tm ba bn bc ga gn gc ba' bc' ga' gc' S G _ t1 t2).mono ?_;rintro e w1 ⟨rfl,hb1⟩;have B1:=hid (btr B0.out hb1);clear hb1 t1 t2 c0 c1
 go_wp2
 go_ret
 exact ⟨rfl,B1.out⟩
theorem drawBoxText_any (ao:Option Addr) (n cap:Nat) (w:World) (hn:n≤1048576) (hcode:Code w w.heap.size ao n) :
  Calls Tryz.prog 11 #[.slice ao n cap] w fun e w'=>One6 w e w':=by
 have R0:=hid (Bx.new w 38 0 ⟨#[]⟩ 0 0 0 (.slice none 0 0) (.slice none 0 0));have N0:=hid (bpush (bre w) (.cells #[.int .i64 0,.string ⟨#[]⟩,.int .i64 0,.int .i64 0,.int .i64 0,.slice none 0 0,.slice none 0 0] 38));have O0:=hid (hcode.over N0.out);clear hcode
 go_enter Tryz.func11,Tryz.ntmps11
 go_wp2_with fail
 refine (new_any ao n cap _ hn O0.out).mono ?_;rintro e w2 ⟨rfl,hc,ho,hb⟩
 have e1:(w.alloc (.cells #[.int .i64 0,.string ⟨#[]⟩,.int .i64 0,.int .i64 0,.int .i64 0,.slice none 0 0,.slice none 0 0] 38)).heap.size=w.heap.size+1:=by simp
 rw [e1] at hc ho ⊢;have C2:=hid hc;have O2:=hid ho;have R2:=hid (R0.out.later hb);have B2:=hid (btr N0.out hb);clear hc ho hb R0 N0 O0 e1
 go_wp2_with fail
 refine (l06Any_any (w.heap.size+1) ao n cap _ hn C2.out O2.out).mono ?_;rintro e w3 ⟨g,nm,t,b,nx,ma,mn,mc,ga,gn,gc,L,G,hi,rfl,hbg,hc,hg⟩;have R3:=hid (R2.out.far hg (by omega));have HS:Hid (w.heap.size<w2.heap.size):=R2.out.lt;have B3:=hid (B2.out.trans (only_below hg (by omega) B2.out.size));have HB:=hid hbg;have q1:=R3.out.cells;have f1:=R3.out.loose;clear hbg hc hg R2 B2 C2 O2
 go_wp2
 have hs:=HS.out;have d1:=(R3.out.set7 g nm t b nx (.slice ma mn mc) (.slice ga gn gc)).cells;have e2:=B3.out.trans (below_of_grown (set7_grown w3 w.heap.size g nm t b nx (.slice ma mn mc) (.slice ga gn gc)) (Nat.le_refl _) B3.out.size);have e3:=HB.out.set7 (k:=w.heap.size) (by omega) g nm t b nx (.slice ma mn mc) (.slice ga gn gc);unfold Go.Proofs.YtdkedgedkgabnaaGreatDoor.set7 at d1 e2 e3;refine bodyPost_ret (v:=.agg #[.int .i64 g,.string nm,.int .i64 t,.int .i64 b,.int .i64 nx,.slice ma mn mc,.slice ga gn gc]) (by simp [results,Tryz.results11,go_sem,d1]) rfl ⟨g,nm,t,b,nx,ma,mn,mc,ga,gn,gc,L,G,rfl,⟨_,e3.wide (by omega) (Nat.le_refl _) e3.mails.1⟩,e2⟩
theorem drawStoreText_any (ao:Option Addr) (n cap:Nat) (w:World) (hn:n≤1048576) (hcode:Code w w.heap.size ao n) :
  Calls Tryz.prog 6 #[.slice ao n cap] w fun e w'=>Store7 w e w':=by
 have R:=hid (Sx.new w 27 0 0 (.slice none 0 0) (.slice none 0 0));have B:=hid (bpush (bre w) (.cells #[.int .i64 0,.int .i64 0,.slice none 0 0,.slice none 0 0] 27));have HO:=hid hcode;clear hcode
 go_enter Tryz.func6,Tryz.ntmps6
 go_wp2_with fail
 refine (new_any ao n cap _ hn (HO.out.over B.out)).mono ?_;rintro e w1 ⟨rfl,hc,_,hb⟩
 have e1:(w.alloc (.cells #[.int .i64 0,.int .i64 0,.slice none 0 0,.slice none 0 0] 27)).heap.size=w.heap.size+1:=by simp
 rw [e1] at hc ⊢;have C:=hid hc;have R:=hid (R.out.later hb);have B:=hid (btr B.out hb);clear hc hb e1
 go_wp2_with fail
 refine (l07Any_any (w.heap.size+1) ao n cap _ hn C.out (HO.out.low B.out (Nat.le_succ _))).mono ?_;rintro e w2 ⟨hi,y,tm,ba,bn,bc,ga,gn,gc,S,G,rfl,htm,ht,hc,hg⟩;have Z:Hid (Tg w2 (w.heap.size+2) hi ba bn bc ga gn gc S G):=ht.wide (by have h1:=C.out.lt;omega) (Nat.le_refl _) ht.top;have R:=hid (R.out.off hg (by omega));have B:=hid (B.out.trans (only_below hg (by omega) B.out.size));have HTM:=hid htm;clear ht htm hc hg;have q1:=R.out.cells;have f1:=R.out.loose
 go_wp2
 exact dr_end R.out (Z.out.wide (by omega) (Nat.le_refl _) Z.out.top) B.out (fun W' h hb=>⟨y,tm,ba,bn,bc,ga,gn,gc,S,G,rfl,HTM.out,h,hb⟩) (fun W' _ d=>by simp [results,Tryz.results6,go_sem,d])
theorem btR_s (g:Int) (nm:ByteArray) (t b nx:Int) (L:List M4) (G:List Int):∃ (x:ByteArray) (c:Bool),btR g nm t b nx L G=.tuple #[.string x,.bool c]∧x.size≤903:=by
 unfold btR
 by_cases h:bxOk g nm t b nx L G=true
 ·rw [if_pos h]
  exact ⟨_,_,rfl,btx_size h⟩
 rw [if_neg h];exact ⟨_,_,rfl,by decide⟩
theorem stR_s (y tm:Int) (S:List X7) (G:List Int):∃ (x:ByteArray) (c:Bool),stR y tm S G=.tuple #[.string x,.bool c]∧x.size≤4565:=by
 unfold stR
 by_cases h:sOk y tm S G=true
 ·rw [if_pos h]
  exact ⟨_,_,rfl,by rw [ByteArray.size_append,tail4_size];have:=stx_size h;omega⟩
 rw [if_neg h];exact ⟨_,_,rfl,by decide⟩
theorem drawReadBox_any (ao:Option Addr) (n cap:Nat) (w:World) (hn:n≤1048576) (hcode:Code w w.heap.size ao n) :
  Calls Tryz.prog 14 #[.slice ao n cap] w fun e w'=>Rd1 w e w':=by
 have HO:=hid hcode;clear hcode
 go_enter Tryz.func14,Tryz.ntmps14
 go_wp2_with fail
 refine (new_any ao n cap _ hn HO.out).mono ?_;rintro e w1 ⟨rfl,hc,ho,hb⟩;have C1:=hid hc;have O1:=hid ho;have B1:=hid hb;clear hc ho hb
 go_wp2_with fail
 refine (below4 w.heap.size ao n cap _ hn C1.out O1.out 4 (by decide) (by decide)).mono ?_;rintro e w2 ⟨k,hk,rfl,hc,hg⟩;have C2:=hid hc;have O2:=hid (O1.out.later hg);have B2:=hid (B1.out.trans (below_grownR hg (by intro j hj;simp at hj;omega) B1.out.size));clear hc hg C1 O1 B1
 go_wp2_with fail
 refine (l06Any_any w.heap.size ao n cap _ hn C2.out O2.out).mono ?_;rintro e w3 ⟨g,nm,t,b,nx,ma,mn,mc,ga,gn,gc,L,G,hi,rfl,hbg,hc,hg⟩;have C3:=hid hc;have O3:=hid (O2.out.later hg);have B3:=hid (B2.out.trans (below_grownR hg (by intro j hj;simp at hj;omega) B2.out.size));have HB:=hid hbg;obtain ⟨x,c,hx,hxs⟩:=btR_s g nm t b nx L G;have HX:=hid hx;clear hc hg C2 O2 B2 hx hbg
 go_wp2_with fail
 refine (specBoxText_any _ _ _ _ g nm t b nx ma mn mc ga gn gc L G _ (by have:=HB.out.nmz;omega) HB.out.len (by have:=HB.out.most;omega) HB.out.sm HB.out.mails HB.out.glen (by have:=HB.out.gmost;omega) HB.out.gone).mono ?_;rintro e w4 ⟨rfl,hb⟩;rw [HX.out];have L3:Hid (w.heap.size<w3.heap.size):=C3.out.lt;have C4:=hid (C3.out.below hb L3.out);have O4:=hid (O3.out.later (grown_below hb (some w.heap.size)));have B4:=hid (btr B3.out hb);clear hb C3 O3 B3
 by_cases h0:k=0
 ·subst h0
  go_wp2_with fail
  refine (spoilt_any w.heap.size ao n cap x _ hn (by omega) C4.out O4.out).mono ?_;rintro e w5 ⟨y,hy,rfl,hg⟩;have B5:=hid (B4.out.trans (below_grownR hg (by intro j hj;simp at hj;omega) B4.out.size));clear hg
  go_wp2
  go_ret2
  exact ⟨y,0,rfl,hy,Nat.zero_le _,B5.out⟩
 have hk0:((k:Int) == 0)=false:=beq_eq_false_iff_ne.2 (by omega)
 by_cases h1:k=1
 ·subst h1
  go_wp2
  go_ret2
  exact ⟨⟨#[120]⟩++x,1,rfl,by rw [ByteArray.size_append];show 1+x.size≤_;omega,by rw [ByteArray.size_append];show 1≤1+x.size;omega,B4.out⟩
 have hk1:((k:Int) == 1)=false:=beq_eq_false_iff_ne.2 (by omega)
 go_wp2
 go_ret2
 exact ⟨x++⟨#[109,111,114,101]⟩,0,rfl,by rw [ByteArray.size_append];show x.size+4≤_;omega,Nat.zero_le _,B4.out⟩
def Text10 (w:World) (e:Ending) (w':World):Prop:=∃ x:ByteArray,e=.returned (.string x)∧x.size≤20004∧Below w.heap.size w w'
theorem specSealed_s (s:ByteArray) (w:World) (hm:s.size≤1048576) :
  Calls Tryz.prog 41 #[.string s] w fun e w'=>∃ (x:ByteArray) (b:Bool),x.size≤20004∧e=.returned (.tuple #[.string x,.bool b])∧Below w.heap.size w w':=by
 by_cases hs:s.size≤20000
 ·refine (specSealed_yes s w hs).mono ?_
  rintro e w' ⟨rfl,hb⟩;exact ⟨_,_,by rw [ByteArray.size_append,tail4_size];omega,rfl,hb⟩
 refine (specSealed_no s w hm hs).mono ?_;rintro e w' ⟨rfl,rfl⟩;exact ⟨_,_,by decide,rfl,bre _⟩
theorem drawReadStore_any (ao:Option Addr) (n cap:Nat) (w:World) (hn:n≤1048576) (hcode:Code w w.heap.size ao n) :
  Calls Tryz.prog 9 #[.slice ao n cap] w fun e w'=>Text10 w e w':=by
 have HO:=hid hcode;clear hcode
 go_enter Tryz.func9,Tryz.ntmps9
 go_wp2_with fail
 refine (new_any ao n cap _ hn HO.out).mono ?_;rintro e w1 ⟨rfl,hc,ho,hb⟩;have C1:=hid hc;have O1:=hid ho;have B1:=hid hb;clear hc ho hb
 go_wp2_with fail
 refine (below4 w.heap.size ao n cap _ hn C1.out O1.out 3 (by decide) (by decide)).mono ?_;rintro e w2 ⟨k,hk,rfl,hc,hg⟩;have C2:=hid hc;have O2:=hid (O1.out.later hg);have B2:=hid (B1.out.trans (below_grownR hg (by intro j hj;simp at hj;omega) B1.out.size));clear hc hg C1 O1 B1
 go_wp2_with fail
 refine (l07Any_any w.heap.size ao n cap _ hn C2.out O2.out).mono ?_;rintro e w3 ⟨hi,y,tm,ba,bn,bc,ga,gn,gc,S,G,rfl,htm,ht,hc,hg⟩;have C3:=hid hc;have O3:=hid (O2.out.later hg);have B3:=hid (B2.out.trans (below_grownR hg (by intro j hj;simp at hj;omega) B2.out.size));have HT:=hid ht;obtain ⟨x,c,hx,hxs⟩:=stR_s y tm S G;have HX:=hid hx;clear hc hg C2 O2 B2 hx ht htm
 go_wp2_with fail
 refine (specStoreText_any _ _ _ _ y tm ba bn bc ga gn gc S G _ HT.out.len HT.out.most HT.out.sb HT.out.boxes HT.out.glen HT.out.gmost HT.out.gone).mono ?_;rintro e w4 ⟨rfl,hb⟩;rw [HX.out];have L3:Hid (w.heap.size<w3.heap.size):=C3.out.lt;have C4:=hid (C3.out.below hb L3.out);have O4:=hid (O3.out.later (grown_below hb (some w.heap.size)));have B4:=hid (btr B3.out hb);clear hb C3 O3 B3 HX HT
 by_cases h0:k=0
 ·subst h0
  go_wp2_with fail
  refine (specUnsealed_any x _ (by omega)).mono ?_;rintro e w5 ⟨rfl,hb⟩;have hu:=uns_size x;obtain ⟨v,hv⟩:∃ v,(uns x).1=v:=⟨_,rfl⟩;obtain ⟨o,ho⟩:∃ o,(uns x).2=o:=⟨_,rfl⟩;rw [hv] at hu ⊢;rw [ho];have C5:=hid (C4.out.below hb C4.out.lt);have O5:=hid (O4.out.later (grown_below hb (some w.heap.size)));have B5:=hid (btr B4.out hb);clear hb C4 O4 B4 hv ho
  cases o
  ·go_wp2
   go_ret
   exact ⟨x,rfl,by omega,B5.out⟩
  go_wp2_with fail
  refine (spoilt_any w.heap.size ao n cap v _ hn (by omega) C5.out O5.out).mono ?_;rintro e w6 ⟨u,hus,rfl,hg⟩;have B6:=hid (B5.out.trans (below_grownR hg (by intro j hj;simp at hj;omega) B5.out.size));clear hg C5 O5 B5
  go_wp2_with fail
  refine (specSealed_s u _ (by omega)).mono ?_;rintro e w7 ⟨z,b,hz,rfl,hb⟩;have B7:=hid (btr B6.out hb);clear hb B6
  go_wp2
  go_ret
  exact ⟨z,rfl,hz,B7.out⟩
 have hk0:((k:Int) == 0)=false:=beq_eq_false_iff_ne.2 (by omega)
 go_wp2
 go_ret
 exact ⟨x,rfl,by omega,B4.out⟩
end Go.Proofs.YtdkedgedkgabnaaGreatDoor
