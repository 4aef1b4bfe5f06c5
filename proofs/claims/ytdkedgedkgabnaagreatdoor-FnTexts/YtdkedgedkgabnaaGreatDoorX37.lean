/- Ww, Wd, We. -/
import Derived.Test.YtdkedgedkgabnaaGreatDoorX36
namespace Go.Proofs.YtdkedgedkgabnaaGreatDoor
open Go.RowKit Go.ChangeMaps
set_option maxHeartbeats 16000000
set_option maxRecDepth 100000
theorem cat_mts (L:List M4):cat (L.map mt4)=mts L:=by
 induction L with
 | nil=>rfl
 | cons m L ih=>simp only [List.map_cons,cat,mts,ih];rfl
theorem cat_vis (G:List Int):cat (G.map vi)=vis G:=by
 induction G with
 | nil=>rfl
 | cons x G ih=>simp only [List.map_cons,cat,vis,ih]
theorem vi_pos (n:Int):0<(vi n).size:=by
 have h:(vi n).size=(vbs n.toNat).length:=by show (vbs n.toNat).toArray.size=_;simp
 rw [h]
 by_cases h2:127<n.toNat
 ·rw [vbs_big _ h2];simp
 rw [vbs_small _ h2];simp
theorem mt4_pos (m:M4):0<(mt4 m).size:=by
 unfold mt4 mtx;simp only [ByteArray.size_append];have:=vi_pos m.1
 omega
def In1 (W:World) (k:Nat) (x:Int):Prop:=W.heap[k]?=some (.cells #[.int .i64 x] 3 (0,0))
def In3 (W:World) (k:Nat) (x y z:Int):Prop:=W.heap[k]?=some (.cells #[.int .i64 x,.int .i64 y,.int .i64 z] 3 (0,0))
theorem In1.later {W W':World} {k:Nat} {x:Int} (h:In1 W k x) (hb:Below W.heap.size W W'):In1 W' k x:=(hb.block k (Array.getElem?_eq_some_iff.1 h).1).trans h
theorem In3.later {W W':World} {k:Nat} {x y z:Int} (h:In3 W k x y z) (hb:Below W.heap.size W W'):In3 W' k x y z:=(hb.block k (Array.getElem?_eq_some_iff.1 h).1).trans h
theorem vt1 (x:Int) (hx:0≤x∧x≤1000000000):∃ s:ByteArray,Hid (s=vi x)∧Hid (∀ W k,In1 W k x→Calls Tryz.prog 29 #[.slice (some ⟨k,0,none⟩) 1 1] W fun e w'=>e=.returned (.string s)∧Below W.heap.size W w'):=by
 refine ⟨vis [x],?_,fun W k h=>?_⟩
 ·show _=_;simp only [vis,nil_ba]
 refine varTexts_any k [x] 1 _ rfl (by omega) (by intro z hz;simp at hz;subst hz;assumption) (Array.getElem?_eq_some_iff.1 h).1 ?_;intro i hi
 have h2:i=0:=by simp at hi;omega
 subst h2;exact cell_of_row _ _ 0 _ _ _ h
theorem vt3 (x y z:Int) (hx:0≤x∧x≤1000000000) (hy:0≤y∧y≤1000000000) (hz:0≤z∧z≤1000000000):∃ s:ByteArray,Hid (s=vi x++vi y++vi z)∧Hid (∀ W k,In3 W k x y z→Calls Tryz.prog 29 #[.slice (some ⟨k,0,none⟩) 3 3] W fun e w'=>e=.returned (.string s)∧Below W.heap.size W w'):=by
 refine ⟨vis [x,y,z],?_,fun W k h=>?_⟩
 ·show _=_;simp only [vis,nil_ba,ByteArray.append_assoc]
 refine varTexts_any k [x,y,z] 3 _ rfl (by omega) (by intro v hv;simp at hv;rcases hv with rfl | rfl | rfl <;> assumption) (Array.getElem?_eq_some_iff.1 h).1 ?_;intro i hi
 have h2:i=0∨i=1∨i=2:=by simp at hi;omega
 rcases h2 with rfl | rfl | rfl
 ·exact cell_of_row _ _ 0 _ _ _ h
 ·exact cell_of_row _ _ 1 _ _ _ h
 exact cell_of_row _ _ 2 _ _ _ h
theorem ownR_three (w:World) (x y z:ByteArray):OwR (w.alloc (.cells #[.string x,.string y,.string z] 9)) w.heap.size (.slice (some ⟨w.heap.size,0,none⟩) 3 3) [x,y,z]:=by
 have h:=World.ownsRow_lit (base:=w.heap.size) (e:=9) (size:=1) w #[.string x,.string y,.string z] 3 (Nat.le_refl _) (by unfold maxLen;omega) rfl
 simpa [OwR] using h
def bparts (g:Int) (nm:ByteArray) (t b nx:Int) (L:List M4) (G:List Int):List ByteArray:=([vi g,vi nm.size++nm,vi t++vi b++vi nx]++(vi L.length::L.map mt4))++(vi G.length::G.map vi)
theorem bparts_cat (g:Int) (nm:ByteArray) (t b nx:Int) (L:List M4) (G:List Int):cat (bparts g nm t b nx L G)=btx g nm t b nx L G:=by
 unfold bparts btx bth;simp only [cat_app,cat,cat_mts,cat_vis,nil_ba,ByteArray.append_assoc]
theorem bparts_pos (g:Int) (nm:ByteArray) (t b nx:Int) (L:List M4) (G:List Int):∀ x∈bparts g nm t b nx L G,0<x.size:=by
 intro x hx;unfold bparts at hx;have h1:=vi_pos g;have h2:=vi_pos nm.size;have h3:=vi_pos t;simp only [List.mem_append,List.mem_cons,List.mem_map,List.not_mem_nil,or_false] at hx
 rcases hx with ((rfl | rfl | rfl) | rfl | ⟨m,_,rfl⟩) | rfl | ⟨y,_,rfl⟩
 ·exact h1
 ·rw [ByteArray.size_append];omega
 ·rw [ByteArray.size_append,ByteArray.size_append];omega
 ·exact vi_pos _
 ·exact mt4_pos m
 ·exact vi_pos _
 exact vi_pos y
theorem bparts_len (g:Int) (nm:ByteArray) (t b nx:Int) (L:List M4) (G:List Int):(bparts g nm t b nx L G).length=L.length+G.length+5:=by
 unfold bparts;simp only [List.length_append,List.length_cons,List.length_map,List.length_nil]
 omega
theorem implBoxText_any (l1 h1 l2 h2:Nat) (g:Int) (nm:ByteArray) (t b nx:Int) (ma:Option Addr) (mn mc:Nat) (ga:Option Addr) (gn gc:Nat) (L:List M4) (G:List Int) (w:World) (hnm:nm.size≤1048576) (hl:L.length=mn) (hn:mn≤1048576) (hsm:Sm L) (hm:Ms l1 h1 w ma L) (hgl:G.length=gn) (hgn:gn≤1048576) (hs:Is l2 h2 w ga G) :
  Calls Tryz.prog 12 #[.agg #[.int .i64 g,.string nm,.int .i64 t,.int .i64 b,.int .i64 nx,.slice ma mn mc,.slice ga gn gc]] w fun e w'=>e=.returned (btR g nm t b nx L G)∧Below w.heap.size w w':=by
 obtain ⟨W0,hW0⟩:∃ W0,w.alloc (.cells #[.int .i64 g,.string nm,.int .i64 t,.int .i64 b,.int .i64 nx,.slice ma mn mc,.slice ga gn gc] 38)=W0:=⟨_,rfl⟩
 have XB:Hid (Bx W0 w.heap.size 38 g nm t b nx (.slice ma mn mc) (.slice ga gn gc)):=by subst hW0;exact hid (Bx.new w _ _ _ _ _ _ _ _)
 have HB:Hid (Below w.heap.size w W0):=by subst hW0;exact hid (bpush (bre _) _)
 have HM:=hid hm;have HS:=hid hs;have HL:=hid hl;have HG:=hid hgl;have HX:=hid hsm;have c0:=XB.out.cells;have HOK:=hid (implBoxOk_any l1 h1 l2 h2 g nm t b nx ma mn mc ga gn gc L G W0 hnm hl hn hsm (hm.later HB.out) hgl hgn (hs.later HB.out));clear hm hs hl hgl hsm
 cases hok:bxOk g nm t b nx L G
 ·have hE:btR g nm t b nx L G=.tuple #[.string ⟨#[]⟩,.bool false]:=by unfold btR;rw [hok];rfl
  rw [hE];rw [hok] at HOK;clear hE hok
  go_enter Tryz.func12,Tryz.ntmps12
  go_wp2_with fail
  try rw [hW0]
  clear hW0;refine HOK.out.mono ?_;rintro e w1 ⟨rfl,hb1⟩;have B1:=hid (btr HB.out hb1);clear hb1 c0
  go_wp2
  go_ret2
  exact ⟨rfl,B1.out⟩
 have hE:btR g nm t b nx L G=.tuple #[.string (btx g nm t b nx L G),.bool true]:=by unfold btR;rw [hok];rfl
 rw [hE];rw [hok] at HOK;have HZ:Hid ((cat (bparts g nm t b nx L G)).size≤1048576):=hid (by rw [bparts_cat];have:=btx_size hok;omega);obtain ⟨p1,p2,p3,p4,p5,p6,p7,p8⟩:=bx_txt hok;obtain ⟨x1,e1,C1⟩:=vt1 g (by omega);obtain ⟨x2,e2,z2,C2⟩:=short_i nm (by omega);obtain ⟨x3,e3,C3⟩:=vt3 t b nx (by omega) (by omega) (by omega);have P6:=hid p6;have P8:Hid (∀ y∈G,0≤y∧y≤1000000000):=hid (fun y hy=>by have:=p8 y hy;omega);have HN:=hid hn;have HGN:=hid hgn;have HN2:Hid (mn+gn≤50):=hid (by rw [HL.out] at p5;rw [HG.out] at p7;omega);obtain ⟨lm,hlm⟩:∃ l,(vi mn::L.map mt4)=l:=⟨_,rfl⟩;obtain ⟨lg,hlg⟩:∃ l,(vi gn::G.map vi)=l:=⟨_,rfl⟩;have HLM:Hid (lm.length=mn+1):=hid (by rw [← hlm];simp only [List.length_cons,List.length_map];rw [HL.out]);have HLG:Hid (lg.length=gn+1):=hid (by rw [← hlg];simp only [List.length_cons,List.length_map];rw [HG.out]);have HP:Hid (([x1,x2,x3]++lm)++lg=bparts g nm t b nx L G):=hid (by rw [← hlm,← hlg,e1.out,e2.out,e3.out,← HL.out,← HG.out];rfl);have CM:=hid (fun (W:World) (h:Ms l1 h1 W ma L)=>ltMails_any l1 h1 ma mn mc L W HL.out HN.out HX.out h P6.out);have CG:=hid (fun (W:World) (h:Is l2 h2 W ga G)=>ltInts_any l2 h2 ga gn gc G W HG.out HGN.out h P8.out);rw [hlm] at CM;rw [hlg] at CG;clear hlm hlg;clear hE hok hn hgn p1 p3 p4 p5 p6 p7 p8 z2
 go_enter Tryz.func12,Tryz.ntmps12
 go_wp2_with fail
 try rw [hW0]
 clear hW0;refine HOK.out.mono ?_;rintro e w1 ⟨rfl,hb1⟩;replace XB:=hid (XB.out.later hb1);replace HB:=hid (btr HB.out hb1);clear hb1 c0 HOK;have c0:=XB.out.cells
 go_wp2_with fail
 refine (C2.out _).mono ?_;rintro e w2 ⟨rfl,hb2⟩;replace XB:=hid (XB.out.later hb2);replace HB:=hid (btr HB.out hb2);clear hb2 c0 C2
 go_wp2_with fail
 have HSS:Hid (∀ W,Bx W w.heap.size 38 g nm t b nx (.slice ma mn mc) (.slice ga gn gc)→(fun W=>(W.cell? ⟨w.heap.size,0,none⟩=some (.int .i64 g)∧W.cell? ⟨w.heap.size,1,none⟩=some (.string nm)∧W.cell? ⟨w.heap.size,2,none⟩=some (.int .i64 t)∧W.cell? ⟨w.heap.size,3,none⟩=some (.int .i64 b)∧W.cell? ⟨w.heap.size,4,none⟩=some (.int .i64 nx)∧W.cell? ⟨w.heap.size,5,none⟩=some (.slice ma mn mc)∧W.cell? ⟨w.heap.size,6,none⟩=some (.slice ga gn gc))) W):=hid (fun W h=>h.cells);refine wp_region_noPanic ?_;refine wp_region_held_drew (S:=(fun W=>(W.cell? ⟨w.heap.size,0,none⟩=some (.int .i64 g)∧W.cell? ⟨w.heap.size,1,none⟩=some (.string nm)∧W.cell? ⟨w.heap.size,2,none⟩=some (.int .i64 t)∧W.cell? ⟨w.heap.size,3,none⟩=some (.int .i64 b)∧W.cell? ⟨w.heap.size,4,none⟩=some (.int .i64 nx)∧W.cell? ⟨w.heap.size,5,none⟩=some (.slice ma mn mc)∧W.cell? ⟨w.heap.size,6,none⟩=some (.slice ga gn gc)))) (by kernel_rfl) (HSS.out _ XB.out) (fun hHeld=>?_);obtain ⟨v0,hv0⟩:∃ x,w2.drew=x:=⟨_,rfl⟩;replace XB:=hid (XB.out.later (bdr (bre _)));replace HB:=hid (btr HB.out (bdr (bre _)));rw [hv0] at XB HB hHeld;rw [hv0];clear hv0;refine tk 0 ?_;refine tk 1 ?_;refine tk 4 ?_;refine tk 5 ?_;refine tk 6 ?_;refine tk 7 ?_;refine tk 8 ?_;refine tk 9 ?_;refine tk 10 ?_;refine tk 11 ?_;refine tk 12 ?_;clear hHeld;refine wpAnyH_ready (rs:=[2,13]) (by kernel_rfl) (by simp) ?_;refine rc (fun K hK=>?_) (rl (fun K hK=>?_))
 ·go_simp
  have hbx:=bpush (bre v0) (.cells #[.int .i64 g] 3);have J1:Hid (In1 (v0.alloc (.cells #[.int .i64 g] 3)) v0.heap.size g):=hid (heap_alloc_new v0 _);replace XB:=hid (XB.out.later hbx);replace HB:=hid (btr HB.out hbx);obtain ⟨v1,hv1⟩:∃ x,v0.alloc (.cells #[.int .i64 g] 3)=x:=⟨_,rfl⟩;obtain ⟨k1,hk1⟩:∃ x,v0.heap.size=x:=⟨_,rfl⟩;rw [hv1] at XB HB J1;rw [hk1] at J1;rw [hv1,hk1];clear hbx hv1 hk1;refine hK.out _ _ (HSS.out _ XB.out) (fun hHeld=>?_);clear hK K hHeld;try simp only [Act.put,tq]
  refine wpAnyH_ready (rs:=[3,13]) (by kernel_rfl) (by simp) ?_;refine rc (fun K hK=>?_) (rl (fun K hK=>?_))
  ·go_simp
   refine (C1.out _ _ J1.out).mono ?_;rintro e v2 ⟨rfl,hbx⟩;replace XB:=hid (XB.out.later hbx);replace HB:=hid (btr HB.out hbx);replace J1:=hid (J1.out.later hbx);clear hbx
   go_wp2_with fail
   refine hK.out _ _ (HSS.out _ XB.out) (fun hHeld=>?_);clear hK K hHeld;try simp only [Act.put,tq]
   refine ry 13 (fun K hK=>?_);go_simp;have hbx:=bpush (bre v2) (.cells #[.int .i64 t,.int .i64 b,.int .i64 nx] 3);have J3:Hid (In3 (v2.alloc (.cells #[.int .i64 t,.int .i64 b,.int .i64 nx] 3)) v2.heap.size t b nx):=hid (heap_alloc_new v2 _);replace XB:=hid (XB.out.later hbx);replace HB:=hid (btr HB.out hbx);replace J1:=hid (J1.out.later hbx);obtain ⟨v3,hv3⟩:∃ x,v2.alloc (.cells #[.int .i64 t,.int .i64 b,.int .i64 nx] 3)=x:=⟨_,rfl⟩;obtain ⟨k3,hk3⟩:∃ x,v2.heap.size=x:=⟨_,rfl⟩;rw [hv3] at XB HB J3 J1;rw [hk3] at J3;rw [hv3,hk3];clear hbx hv3 hk3;refine hK.out _ _ (HSS.out _ XB.out) (fun hHeld=>?_);clear hK K hHeld;try simp only [Act.put,tq]
   refine ry 14 (fun K hK=>?_);go_simp;refine (C3.out _ _ J3.out).mono ?_;rintro e v4 ⟨rfl,hbx⟩;replace XB:=hid (XB.out.later hbx);replace HB:=hid (btr HB.out hbx);replace J1:=hid (J1.out.later hbx);replace J3:=hid (J3.out.later hbx);clear hbx
   go_wp2_with fail
   refine hK.out _ _ (HSS.out _ XB.out) (fun hHeld=>?_);clear hK K hHeld;try simp only [Act.put,tq]
   refine ry 15 (fun K hK=>?_);go_simp;have hbx:=bpush (bre v4) (.cells #[.string x1,.string x2,.string x3] 9);have hlt:=XB.out.lt;have OO:Hid (OwR (v4.alloc (.cells #[.string x1,.string x2,.string x3] 9)) (w.heap.size+1) (.slice (some ⟨v4.heap.size,0,none⟩) 3 3) [x1,x2,x3]):=hid (own_base (ownR_three v4 x1 x2 x3) (by omega));replace XB:=hid (XB.out.later hbx);replace HB:=hid (btr HB.out hbx);obtain ⟨u0,hu0⟩:∃ x,v4.alloc (.cells #[.string x1,.string x2,.string x3] 9)=x:=⟨_,rfl⟩;obtain ⟨kp,hkp⟩:∃ x,v4.heap.size=x:=⟨_,rfl⟩;rw [hu0] at XB HB OO;rw [hkp] at OO;rw [hu0,hkp];clear hbx hu0 hkp hlt;refine hK.out _ _ (HSS.out _ XB.out) (fun hHeld=>?_);clear hK K;try simp only [Act.put,tq]
   refine tk 16 ?_;clear hHeld;refine dn ?_;have c5:=XB.out.cells
   go_wp2_with fail
   refine (CM.out _ (HM.out.later HB.out)).mono ?_;rintro e u1 ⟨vm,rfl,hom,hbm⟩;obtain ⟨gm,cm,hvm,hgm,_,hcm⟩:=hom.shape (by rw [HLM.out];omega);subst hvm;replace XB:=hid (XB.out.later hbm);replace HB:=hid (btr HB.out hbm);replace OO:=hid (own_later OO.out hbm);have HCM:=hid hcm;have hsz:=HB.out.size;have hxl:=XB.out.lt;rw [HLM.out];clear hom hbm hgm hcm c5
   go_wp2_with (at_builtin;refine wpList_append_strs u1 rfl (.tmp 32) (.tmp 35) rfl (w.heap.size+1) _ [x1,x2,x3] lm (by rfl) OO.out gm (mn+1) cm HLM.out (by rfl) HCM.out (by simp) (by have:=HN.out;omega) (by omega) ?_;intro v5 w5 hown5 hb5;have XB5:Bx w5 w.heap.size 38 g nm t b nx (.slice ma mn mc) (.slice ga gn gc):=(hb5.block _ (by omega)).trans XB.out;have c5:=XB5.cells;have HO5:=hid hown5;have HB5:=hid (HB.out.trans (hb5.mono (by omega)));clear hown5 hb5)
   refine (CG.out _ (HS.out.later HB5.out)).mono ?_;rintro e u2 ⟨vg,rfl,hog,hbg⟩;obtain ⟨gg,cg,hvg,hgg,_,hcg⟩:=hog.shape (by rw [HLG.out];omega);subst hvg;replace XB:=hid (XB5.later hbg);replace HB:=hid (btr HB5.out hbg);replace OO:=hid (own_later HO5.out hbg);have HCG:=hid hcg;replace hsz:=HB.out.size;replace hxl:=XB.out.lt;rw [HLG.out];clear hog hbg hgg hcg c5 XB5 HB5 HO5
   go_wp2_with (at_builtin;refine wpList_append_strs u2 rfl (.tmp 37) (.tmp 40) rfl (w.heap.size+1) _ ([x1,x2,x3]++lm) lg (by rfl) OO.out gg (gn+1) cg HLG.out (by rfl) HCG.out (by rw [List.length_append,HLM.out];have:=HN.out;simp;omega) (by have:=HGN.out;omega) (by omega) ?_;intro v6 w6 hown6 hb6;rw [HP.out] at hown6;have HB6:=hid (HB.out.trans (hb6.mono (by omega)));obtain ⟨g6,c6,hv6,hg6,_,hc6⟩:=hown6.shape (by rw [bparts_len];omega);subst hv6;have HC6:=hid hc6;have HG6:=hid hg6;obtain ⟨n6,hn6⟩:∃ n,(bparts g nm t b nx L G).length=n:=⟨_,rfl⟩;rw [hn6];have HN6:=hid hn6;clear hown6 hb6 hc6 hg6 hn6)
   refine (moved_any g6 n6 c6 (bparts g nm t b nx L G) w6 HN6.out (by rw [← HN6.out,bparts_len,HL.out,HG.out];have h1:=HN2.out;omega) HG6.out HC6.out (bparts_pos g nm t b nx L G) HZ.out).mono ?_;rintro e w7 ⟨rfl,hb7⟩;have B7:=hid (btr HB6.out hb7);rw [bparts_cat];obtain ⟨z,hz⟩:∃ z,btx g nm t b nx L G=z:=⟨_,rfl⟩;rw [hz];have HZZ:=hid hz;clear hb7 hz
   go_wp2
   go_ret2
   exact ⟨by rw [HZZ.out];rfl,B7.out⟩
  go_simp;have hbx:=bpush (bre v1) (.cells #[.int .i64 t,.int .i64 b,.int .i64 nx] 3);have J3:Hid (In3 (v1.alloc (.cells #[.int .i64 t,.int .i64 b,.int .i64 nx] 3)) v1.heap.size t b nx):=hid (heap_alloc_new v1 _);replace XB:=hid (XB.out.later hbx);replace HB:=hid (btr HB.out hbx);replace J1:=hid (J1.out.later hbx);obtain ⟨v6,hv6⟩:∃ x,v1.alloc (.cells #[.int .i64 t,.int .i64 b,.int .i64 nx] 3)=x:=⟨_,rfl⟩;obtain ⟨k3,hk6⟩:∃ x,v1.heap.size=x:=⟨_,rfl⟩;rw [hv6] at XB HB J3 J1;rw [hk6] at J3;rw [hv6,hk6];clear hbx hv6 hk6;refine hK.out _ _ (HSS.out _ XB.out) (fun hHeld=>?_);clear hK K hHeld;try simp only [Act.put,tq]
  refine ry 3 (fun K hK=>?_);go_simp;refine (C1.out _ _ J1.out).mono ?_;rintro e v7 ⟨rfl,hbx⟩;replace XB:=hid (XB.out.later hbx);replace HB:=hid (btr HB.out hbx);replace J1:=hid (J1.out.later hbx);replace J3:=hid (J3.out.later hbx);clear hbx
  go_wp2_with fail
  refine hK.out _ _ (HSS.out _ XB.out) (fun hHeld=>?_);clear hK K hHeld;try simp only [Act.put,tq]
  refine ry 14 (fun K hK=>?_);go_simp;refine (C3.out _ _ J3.out).mono ?_;rintro e v8 ⟨rfl,hbx⟩;replace XB:=hid (XB.out.later hbx);replace HB:=hid (btr HB.out hbx);replace J1:=hid (J1.out.later hbx);replace J3:=hid (J3.out.later hbx);clear hbx
  go_wp2_with fail
  refine hK.out _ _ (HSS.out _ XB.out) (fun hHeld=>?_);clear hK K hHeld;try simp only [Act.put,tq]
  refine ry 15 (fun K hK=>?_);go_simp;have hbx:=bpush (bre v8) (.cells #[.string x1,.string x2,.string x3] 9);have hlt:=XB.out.lt;have OO:Hid (OwR (v8.alloc (.cells #[.string x1,.string x2,.string x3] 9)) (w.heap.size+1) (.slice (some ⟨v8.heap.size,0,none⟩) 3 3) [x1,x2,x3]):=hid (own_base (ownR_three v8 x1 x2 x3) (by omega));replace XB:=hid (XB.out.later hbx);replace HB:=hid (btr HB.out hbx);obtain ⟨u0,hu0⟩:∃ x,v8.alloc (.cells #[.string x1,.string x2,.string x3] 9)=x:=⟨_,rfl⟩;obtain ⟨kp,hkp⟩:∃ x,v8.heap.size=x:=⟨_,rfl⟩;rw [hu0] at XB HB OO;rw [hkp] at OO;rw [hu0,hkp];clear hbx hu0 hkp hlt;refine hK.out _ _ (HSS.out _ XB.out) (fun hHeld=>?_);clear hK K;try simp only [Act.put,tq]
  refine tk 16 ?_;clear hHeld;refine dn ?_;have c5:=XB.out.cells
  go_wp2_with fail
  refine (CM.out _ (HM.out.later HB.out)).mono ?_;rintro e u1 ⟨vm,rfl,hom,hbm⟩;obtain ⟨gm,cm,hvm,hgm,_,hcm⟩:=hom.shape (by rw [HLM.out];omega);subst hvm;replace XB:=hid (XB.out.later hbm);replace HB:=hid (btr HB.out hbm);replace OO:=hid (own_later OO.out hbm);have HCM:=hid hcm;have hsz:=HB.out.size;have hxl:=XB.out.lt;rw [HLM.out];clear hom hbm hgm hcm c5
  go_wp2_with (at_builtin;refine wpList_append_strs u1 rfl (.tmp 32) (.tmp 35) rfl (w.heap.size+1) _ [x1,x2,x3] lm (by rfl) OO.out gm (mn+1) cm HLM.out (by rfl) HCM.out (by simp) (by have:=HN.out;omega) (by omega) ?_;intro v5 w5 hown5 hb5;have XB5:Bx w5 w.heap.size 38 g nm t b nx (.slice ma mn mc) (.slice ga gn gc):=(hb5.block _ (by omega)).trans XB.out;have c5:=XB5.cells;have HO5:=hid hown5;have HB5:=hid (HB.out.trans (hb5.mono (by omega)));clear hown5 hb5)
  refine (CG.out _ (HS.out.later HB5.out)).mono ?_;rintro e u2 ⟨vg,rfl,hog,hbg⟩;obtain ⟨gg,cg,hvg,hgg,_,hcg⟩:=hog.shape (by rw [HLG.out];omega);subst hvg;replace XB:=hid (XB5.later hbg);replace HB:=hid (btr HB5.out hbg);replace OO:=hid (own_later HO5.out hbg);have HCG:=hid hcg;replace hsz:=HB.out.size;replace hxl:=XB.out.lt;rw [HLG.out];clear hog hbg hgg hcg c5 XB5 HB5 HO5
  go_wp2_with (at_builtin;refine wpList_append_strs u2 rfl (.tmp 37) (.tmp 40) rfl (w.heap.size+1) _ ([x1,x2,x3]++lm) lg (by rfl) OO.out gg (gn+1) cg HLG.out (by rfl) HCG.out (by rw [List.length_append,HLM.out];have:=HN.out;simp;omega) (by have:=HGN.out;omega) (by omega) ?_;intro v6 w6 hown6 hb6;rw [HP.out] at hown6;have HB6:=hid (HB.out.trans (hb6.mono (by omega)));obtain ⟨g6,c6,hv6,hg6,_,hc6⟩:=hown6.shape (by rw [bparts_len];omega);subst hv6;have HC6:=hid hc6;have HG6:=hid hg6;obtain ⟨n6,hn6⟩:∃ n,(bparts g nm t b nx L G).length=n:=⟨_,rfl⟩;rw [hn6];have HN6:=hid hn6;clear hown6 hb6 hc6 hg6 hn6)
  refine (moved_any g6 n6 c6 (bparts g nm t b nx L G) w6 HN6.out (by rw [← HN6.out,bparts_len,HL.out,HG.out];have h1:=HN2.out;omega) HG6.out HC6.out (bparts_pos g nm t b nx L G) HZ.out).mono ?_;rintro e w7 ⟨rfl,hb7⟩;have B7:=hid (btr HB6.out hb7);rw [bparts_cat];obtain ⟨z,hz⟩:∃ z,btx g nm t b nx L G=z:=⟨_,rfl⟩;rw [hz];have HZZ:=hid hz;clear hb7 hz
  go_wp2
  go_ret2
  exact ⟨by rw [HZZ.out];rfl,B7.out⟩
 go_simp;have hbx:=bpush (bre v0) (.cells #[.int .i64 t,.int .i64 b,.int .i64 nx] 3);have J3:Hid (In3 (v0.alloc (.cells #[.int .i64 t,.int .i64 b,.int .i64 nx] 3)) v0.heap.size t b nx):=hid (heap_alloc_new v0 _);replace XB:=hid (XB.out.later hbx);replace HB:=hid (btr HB.out hbx);obtain ⟨v10,hv10⟩:∃ x,v0.alloc (.cells #[.int .i64 t,.int .i64 b,.int .i64 nx] 3)=x:=⟨_,rfl⟩;obtain ⟨k3,hk10⟩:∃ x,v0.heap.size=x:=⟨_,rfl⟩;rw [hv10] at XB HB J3;rw [hk10] at J3;rw [hv10,hk10];clear hbx hv10 hk10;refine hK.out _ _ (HSS.out _ XB.out) (fun hHeld=>?_);clear hK K hHeld;try simp only [Act.put,tq]
 refine ry 2 (fun K hK=>?_);go_simp;have hbx:=bpush (bre v10) (.cells #[.int .i64 g] 3);have J1:Hid (In1 (v10.alloc (.cells #[.int .i64 g] 3)) v10.heap.size g):=hid (heap_alloc_new v10 _);replace XB:=hid (XB.out.later hbx);replace HB:=hid (btr HB.out hbx);replace J3:=hid (J3.out.later hbx);obtain ⟨v11,hv11⟩:∃ x,v10.alloc (.cells #[.int .i64 g] 3)=x:=⟨_,rfl⟩;obtain ⟨k1,hk11⟩:∃ x,v10.heap.size=x:=⟨_,rfl⟩;rw [hv11] at XB HB J1 J3;rw [hk11] at J1;rw [hv11,hk11];clear hbx hv11 hk11;refine hK.out _ _ (HSS.out _ XB.out) (fun hHeld=>?_);clear hK K hHeld;try simp only [Act.put,tq]
 refine ry 3 (fun K hK=>?_);go_simp;refine (C1.out _ _ J1.out).mono ?_;rintro e v12 ⟨rfl,hbx⟩;replace XB:=hid (XB.out.later hbx);replace HB:=hid (btr HB.out hbx);replace J3:=hid (J3.out.later hbx);replace J1:=hid (J1.out.later hbx);clear hbx
 go_wp2_with fail
 refine hK.out _ _ (HSS.out _ XB.out) (fun hHeld=>?_);clear hK K hHeld;try simp only [Act.put,tq]
 refine ry 14 (fun K hK=>?_);go_simp;refine (C3.out _ _ J3.out).mono ?_;rintro e v13 ⟨rfl,hbx⟩;replace XB:=hid (XB.out.later hbx);replace HB:=hid (btr HB.out hbx);replace J3:=hid (J3.out.later hbx);replace J1:=hid (J1.out.later hbx);clear hbx
 go_wp2_with fail
 refine hK.out _ _ (HSS.out _ XB.out) (fun hHeld=>?_);clear hK K hHeld;try simp only [Act.put,tq]
 refine ry 15 (fun K hK=>?_);go_simp;have hbx:=bpush (bre v13) (.cells #[.string x1,.string x2,.string x3] 9);have hlt:=XB.out.lt;have OO:Hid (OwR (v13.alloc (.cells #[.string x1,.string x2,.string x3] 9)) (w.heap.size+1) (.slice (some ⟨v13.heap.size,0,none⟩) 3 3) [x1,x2,x3]):=hid (own_base (ownR_three v13 x1 x2 x3) (by omega));replace XB:=hid (XB.out.later hbx);replace HB:=hid (btr HB.out hbx);obtain ⟨u0,hu0⟩:∃ x,v13.alloc (.cells #[.string x1,.string x2,.string x3] 9)=x:=⟨_,rfl⟩;obtain ⟨kp,hkp⟩:∃ x,v13.heap.size=x:=⟨_,rfl⟩;rw [hu0] at XB HB OO;rw [hkp] at OO;rw [hu0,hkp];clear hbx hu0 hkp hlt;refine hK.out _ _ (HSS.out _ XB.out) (fun hHeld=>?_);clear hK K;try simp only [Act.put,tq]
 refine tk 16 ?_;clear hHeld;refine dn ?_;have c5:=XB.out.cells
 go_wp2_with fail
 refine (CM.out _ (HM.out.later HB.out)).mono ?_;rintro e u1 ⟨vm,rfl,hom,hbm⟩;obtain ⟨gm,cm,hvm,hgm,_,hcm⟩:=hom.shape (by rw [HLM.out];omega);subst hvm;replace XB:=hid (XB.out.later hbm);replace HB:=hid (btr HB.out hbm);replace OO:=hid (own_later OO.out hbm);have HCM:=hid hcm;have hsz:=HB.out.size;have hxl:=XB.out.lt;rw [HLM.out];clear hom hbm hgm hcm c5
 go_wp2_with (at_builtin;refine wpList_append_strs u1 rfl (.tmp 32) (.tmp 35) rfl (w.heap.size+1) _ [x1,x2,x3] lm (by rfl) OO.out gm (mn+1) cm HLM.out (by rfl) HCM.out (by simp) (by have:=HN.out;omega) (by omega) ?_;intro v5 w5 hown5 hb5;have XB5:Bx w5 w.heap.size 38 g nm t b nx (.slice ma mn mc) (.slice ga gn gc):=(hb5.block _ (by omega)).trans XB.out;have c5:=XB5.cells;have HO5:=hid hown5;have HB5:=hid (HB.out.trans (hb5.mono (by omega)));clear hown5 hb5)
 refine (CG.out _ (HS.out.later HB5.out)).mono ?_;rintro e u2 ⟨vg,rfl,hog,hbg⟩;obtain ⟨gg,cg,hvg,hgg,_,hcg⟩:=hog.shape (by rw [HLG.out];omega);subst hvg;replace XB:=hid (XB5.later hbg);replace HB:=hid (btr HB5.out hbg);replace OO:=hid (own_later HO5.out hbg);have HCG:=hid hcg;replace hsz:=HB.out.size;replace hxl:=XB.out.lt;rw [HLG.out];clear hog hbg hgg hcg c5 XB5 HB5 HO5
 go_wp2_with (at_builtin;refine wpList_append_strs u2 rfl (.tmp 37) (.tmp 40) rfl (w.heap.size+1) _ ([x1,x2,x3]++lm) lg (by rfl) OO.out gg (gn+1) cg HLG.out (by rfl) HCG.out (by rw [List.length_append,HLM.out];have:=HN.out;simp;omega) (by have:=HGN.out;omega) (by omega) ?_;intro v6 w6 hown6 hb6;rw [HP.out] at hown6;have HB6:=hid (HB.out.trans (hb6.mono (by omega)));obtain ⟨g6,c6,hv6,hg6,_,hc6⟩:=hown6.shape (by rw [bparts_len];omega);subst hv6;have HC6:=hid hc6;have HG6:=hid hg6;obtain ⟨n6,hn6⟩:∃ n,(bparts g nm t b nx L G).length=n:=⟨_,rfl⟩;rw [hn6];have HN6:=hid hn6;clear hown6 hb6 hc6 hg6 hn6)
 refine (moved_any g6 n6 c6 (bparts g nm t b nx L G) w6 HN6.out (by rw [← HN6.out,bparts_len,HL.out,HG.out];have h1:=HN2.out;omega) HG6.out HC6.out (bparts_pos g nm t b nx L G) HZ.out).mono ?_;rintro e w7 ⟨rfl,hb7⟩;have B7:=hid (btr HB6.out hb7);rw [bparts_cat];obtain ⟨z,hz⟩:∃ z,btx g nm t b nx L G=z:=⟨_,rfl⟩;rw [hz];have HZZ:=hid hz;clear hb7 hz
 go_wp2
 go_ret2
 exact ⟨by rw [HZZ.out];rfl,B7.out⟩
theorem rg2_end {s:ByteArray} {a x y c:Int} (h:rg2 s a=some ((x,y),c)):(bl s).drop a.toNat=bl (vi x)++bl (vi y)++(bl s).drop c.toNat∧0≤a∧a<c∧c≤s.size:=by
 unfold rg2 at h
 cases h1:rd s a with
 | none=>rw [h1] at h;cases h
 | some p =>
  obtain ⟨x',c1⟩:=p;rw [h1] at h;simp only [Option.bind_some] at h
  cases h2:rd s c1 with
  | none=>rw [h2] at h;cases h
  | some q =>
   obtain ⟨y',c2⟩:=q;rw [h2] at h;simp only [Option.map_some,Option.some.injEq,Prod.mk.injEq] at h;obtain ⟨⟨rfl,rfl⟩,rfl⟩:=h;have h3:=rd_lt h1;have h4:=rd_lt h2;refine ⟨?_,h3.1,by omega,h4.2.2.1⟩;rw [rd_stood h1,rd_stood h2,bl_vi,bl_vi,List.append_assoc]
theorem ims_end {s:ByteArray} {a c:Int} {L:List M4} (h:ims s a=some (L,c)):(bl s).drop a.toNat=bl (vi L.length)++bl (mts L)++(bl s).drop c.toNat∧0≤a∧a<c∧c≤s.size:=by
 unfold ims at h
 cases h1:rd s a with
 | none=>rw [h1] at h;cases h
 | some p =>
  obtain ⟨n,c1⟩:=p;rw [h1] at h;simp only [Option.bind_some] at h;have h3:=rd_lt h1;have h4:=rms_end h;have h5:=(rms_right h).1
  have h6:(L.length:Int)=n:=by omega
  refine ⟨?_,h3.1,by omega,?_⟩
  ·rw [rd_stood h1,h4.1,h6,bl_vi,List.append_assoc]
  by_cases h7:0<n.toNat
  ·exact (h4.2.2 h7).2
  have h8:n.toNat=0:=by omega
  rw [h8] at h;simp only [rms,Option.some.injEq,Prod.mk.injEq] at h
  omega
theorem iis_end {s:ByteArray} {a c:Int} {G:List Int} (h:iis s a=some (G,c)):(bl s).drop a.toNat=bl (vi G.length)++bl (vis G)++(bl s).drop c.toNat∧0≤a∧a<c∧c≤s.size:=by
 unfold iis at h
 cases h1:rd s a with
 | none=>rw [h1] at h;cases h
 | some p =>
  obtain ⟨n,c1⟩:=p;rw [h1] at h;simp only [Option.bind_some] at h;have h3:=rd_lt h1;have h4:=rds_lt h;have h5:=rds_len h
  have h6:(G.length:Int)=n:=by omega
  refine ⟨?_,h3.1,by omega,?_⟩
  ·rw [rd_stood h1,rds_stood _ h,h6,bl_vi,vil_vis,List.append_assoc]
  by_cases h7:0<n.toNat
  ·exact (h4.2 h7).2
  have h8:n.toNat=0:=by omega
  rw [h8] at h;simp only [rds,Option.some.injEq,Prod.mk.injEq] at h
  omega
theorem ibx_end {s:ByteArray} {a c:Int} {x:X7} (h:ibx s a=some (x,c)):bxx x=true∧(bl s).drop a.toNat=bl (btx x.1 x.2.1 x.2.2.1 x.2.2.2.1 x.2.2.2.2.1 x.2.2.2.2.2.1 x.2.2.2.2.2.2)++(bl s).drop c.toNat∧0≤a∧a<c∧c≤s.size:=by
 have hr:=rbx_right ((ibx_rbx s a).symm.trans h);unfold ibx at h
 cases h1:rd s a with
 | none=>rw [h1] at h;cases h
 | some p1 =>
 obtain ⟨g,c1⟩:=p1;rw [h1] at h;simp only [Option.bind_some] at h
 cases h2:rsh s c1 with
 | none=>rw [h2] at h;cases h
 | some p2 =>
 obtain ⟨nm,c2⟩:=p2;rw [h2] at h;simp only [Option.bind_some] at h
 cases h3:rg2 s c2 with
 | none=>rw [h3] at h;cases h
 | some p3 =>
 obtain ⟨⟨t,b⟩,c3⟩:=p3;rw [h3] at h;simp only [Option.bind_some] at h
 cases h4:rd s c3 with
 | none=>rw [h4] at h;cases h
 | some p4 =>
 obtain ⟨nx,c4⟩:=p4;rw [h4] at h;simp only [Option.bind_some] at h
 cases h5:ims s c4 with
 | none=>rw [h5] at h;cases h
 | some p5 =>
 obtain ⟨L,c5⟩:=p5;rw [h5] at h;simp only [Option.bind_some] at h
 cases h6:iis s c5 with
 | none=>rw [h6] at h;cases h
 | some p6 =>
 obtain ⟨G,c6⟩:=p6;rw [h6] at h;simp only [Option.bind_some] at h
 split at h
 ·simp only [Option.some.injEq,Prod.mk.injEq] at h
  obtain ⟨rfl,rfl⟩:=h;have k1:=rd_lt h1;have k2:=rsh_lt h2;have k3:=rg2_end h3;have k4:=rd_lt h4;have k5:=ims_end h5;have k6:=iis_end h6;refine ⟨hr,?_,k1.1,by omega,k6.2.2.2⟩;rw [rd_stood h1,(rsh_stood h2).1,k3.1,rd_stood h4,k5.1,k6.1];simp only [btx,bth,bl_app,bl_vi,Int.toNat_natCast,List.append_assoc]
 cases h
theorem rbs_end {s:ByteArray} {a:Int}:∀ {k:Nat} {S:List X7} {c:Int},rbs s a k=some (S,c)→(bl s).drop a.toNat=bl (bts S)++(bl s).drop c.toNat∧a+k≤c∧(0<k→0≤a∧c≤s.size):=by
 intro k
 induction k with
 | zero =>
  intro S c h;simp only [rbs,Option.some.injEq,Prod.mk.injEq] at h;obtain ⟨rfl,rfl⟩:=h;exact ⟨by simp [bts,bl],by omega,fun h=>by omega⟩
 | succ k ih =>
  intro S c h
  cases hk:rbs s a k with
  | none=>rw [show rbs s a (k+1)=(rbs s a k).bind _ from rfl,hk] at h;cases h
  | some p =>
   obtain ⟨S0,c0⟩:=p;obtain ⟨h1,h2,h3⟩:=ih hk
   cases hr:rbx s c0 with
   | none=>rw [rbs_stop hk hr] at h;cases h
   | some q =>
    obtain ⟨x,c'⟩:=q;rw [rbs_next hk hr] at h;simp only [Option.some.injEq,Prod.mk.injEq] at h;obtain ⟨rfl,rfl⟩:=h;obtain ⟨-,h4,h5,h6,h7⟩:=ibx_end ((ibx_rbx s c0).trans hr);refine ⟨?_,by omega,fun _=>⟨?_,h7⟩⟩
    ·rw [h1,h4,bts_snoc,bl_app]
     simp only [List.append_assoc]
    cases k with
    | zero =>
     simp only [rbs,Option.some.injEq,Prod.mk.injEq] at hk
     omega
    | succ k=>exact (h3 (by omega)).1
def ibs (s:ByteArray) (b:Int):Option (List X7×Int):=(rd s b).bind fun p=>rbs s p.2 p.1.toNat
def ist (s:ByteArray) (a:Int):Option ((Int×Int×List X7×List Int)×Int) :=
 (rd s a).bind fun p1=>(rd s p1.2).bind fun p2=>(ibs s p2.2).bind fun p3=>(iis s p3.2).bind fun p4 =>
  if sOk p1.1 p2.1 p3.1 p4.1=true then some ((p1.1,p2.1,p3.1,p4.1),p4.2) else none
theorem ibs_end {s:ByteArray} {a c:Int} {S:List X7} (h:ibs s a=some (S,c)):(bl s).drop a.toNat=bl (vi S.length)++bl (bts S)++(bl s).drop c.toNat∧0≤a∧a<c∧c≤s.size:=by
 unfold ibs at h
 cases h1:rd s a with
 | none=>rw [h1] at h;cases h
 | some p =>
  obtain ⟨n,c1⟩:=p;rw [h1] at h;simp only [Option.bind_some] at h;have h3:=rd_lt h1;have h4:=rbs_end h;have h5:=(rbs_right h).1
  have h6:(S.length:Int)=n:=by omega
  refine ⟨?_,h3.1,by omega,?_⟩
  ·rw [rd_stood h1,h4.1,h6,bl_vi,List.append_assoc]
  by_cases h7:0<n.toNat
  ·exact (h4.2.2 h7).2
  have h8:n.toNat=0:=by omega
  rw [h8] at h;simp only [rbs,Option.some.injEq,Prod.mk.injEq] at h
  omega
theorem ist_end {s:ByteArray} {a:Int} {y tm:Int} {S:List X7} {G:List Int} {c:Int} (h:ist s a=some ((y,tm,S,G),c)):sOk y tm S G=true∧(bl s).drop a.toNat=bl (stx y tm S G)++(bl s).drop c.toNat∧0≤c∧c≤s.size:=by
 unfold ist at h
 cases h1:rd s a with
 | none=>rw [h1] at h;cases h
 | some p1 =>
 obtain ⟨y',c1⟩:=p1;rw [h1] at h;simp only [Option.bind_some] at h
 cases h2:rd s c1 with
 | none=>rw [h2] at h;cases h
 | some p2 =>
 obtain ⟨tm',c2⟩:=p2;rw [h2] at h;simp only [Option.bind_some] at h
 cases h3:ibs s c2 with
 | none=>rw [h3] at h;cases h
 | some p3 =>
 obtain ⟨S',c3⟩:=p3;rw [h3] at h;simp only [Option.bind_some] at h
 cases h4:iis s c3 with
 | none=>rw [h4] at h;cases h
 | some p4 =>
 obtain ⟨G',c4⟩:=p4;rw [h4] at h;simp only [Option.bind_some] at h
 split at h
 ·rename_i hk
  simp only [Option.some.injEq,Prod.mk.injEq] at h;obtain ⟨⟨rfl,rfl,rfl,rfl⟩,rfl⟩:=h;have k3:=ibs_end h3;have k4:=iis_end h4;refine ⟨hk,?_,by omega,k4.2.2.2⟩;rw [rd_stood h1,rd_stood h2,k3.1,k4.1];simp only [stx,bl_app,bl_vi,Int.toNat_natCast,List.append_assoc]
 cases h
theorem boxes_either {α:Type} {s:ByteArray} {b n:Int} {F:List X7×Int→Option α} (hF:∀ S c,5<S.length→F (S,c)=none):(rbs s b n.toNat).bind F=(rbs s b (min n 6).toNat).bind F:=by
 by_cases hn:n≤6
 ·rw [show min n 6=n by omega]
 have h1:((rbs s b (min n 6).toNat).bind F)=none:=by
  cases h2:rbs s b (min n 6).toNat with
  | none=>rfl
  | some q =>
   obtain ⟨S,d⟩:=q;have h3:=(rbs_right h2).1;exact hF S d (by omega)
 have h4:((rbs s b n.toNat).bind F)=none:=by
  cases h2:rbs s b n.toNat with
  | none=>rfl
  | some q =>
   obtain ⟨S,d⟩:=q;have h3:=(rbs_right h2).1;exact hF S d (by omega)
 rw [h1,h4]
theorem tail4_len (u:ByteArray):(tail4 u).size=4:=by unfold tail4;rfl
theorem uns_whole {s u:ByteArray} (h:uns s=(u,true)):u++tail4 u=s∧u.size≤20000:=by
 have hz:=uns_size s;rw [h] at hz;unfold uns at h
 split at h
 ·rename_i hc
  simp only [Prod.mk.injEq,and_true] at h;subst h;refine ⟨?_,hz⟩;rw [hc.2.2]
  apply ByteArray.ext
  rw [ByteArray.data_append];simp only [ByteArray.data_extract];rw [Array.extract_append_extract];simp only [Nat.min_eq_left (Nat.zero_le _),Nat.max_eq_right (Nat.sub_le _ _)];exact Array.extract_size
 simp at h
theorem seal_same {u v:ByteArray}:(v++tail4 v=u++tail4 u)↔v=u:=by
 constructor
 ·intro h
  have h1:=congrArg bl h;rw [bl_app,bl_app] at h1;have h2:=congrArg ByteArray.size h;rw [ByteArray.size_append,ByteArray.size_append,tail4_len,tail4_len] at h2;exact bl_inj (List.append_inj h1 (by rw [bl_len,bl_len];omega)).1
 intro h;rw [h]
def irs (s:ByteArray):Option (Int×Int×List X7×List Int):=if (uns s).2=true then (ist (uns s).1 0).bind fun p=>if p.2=(uns s).1.size then some p.1 else none else none
theorem irs_rst (s:ByteArray):irs s=rst s:=by
 unfold irs rst
 cases hu:uns s with
 | mk u ok =>
 cases ok
 ·simp [rt3,rt2,rt1]
 obtain ⟨hs,hz⟩:=uns_whole hu;simp only [if_true];unfold rt3 rt2 rt1 ist;simp only [Option.bind_some]
 cases h1:rd u 0 with
 | none=>rfl
 | some p1 =>
 simp only [Option.bind_some,Option.map_some]
 cases h2:rd u p1.2 with
 | none=>rfl
 | some p2 =>
 simp only [Option.bind_some,Option.map_some];unfold ibs
 cases h3:rd u p2.2 with
 | none=>rfl
 | some p3 =>
 simp only [Option.bind_some,Option.map_some];rw [Option.bind_assoc];simp only [Option.bind_assoc];have hg:∀ (S:List X7) (c:Int),((iis u c).bind fun x=>(if sOk p1.1 p2.1 S x.1=true then some ((p1.1,p2.1,S,x.1),x.2) else none).bind fun p=>if p.2=(u.size:Int) then some p.1 else none)=((rints u c 20).bind fun x=>(if sOk p1.1 p2.1 S x.1=true then some ((p1.1,p2.1,S,x.1),x.2) else none).bind fun p=>if p.2=(u.size:Int) then some p.1 else none):=fun S c =>
  ints_either (by omega) (fun G d hl=>by
    rw [if_neg (fun hb=>by
      obtain ⟨-,-,-,-,h7,-⟩:=st_txt hb
      exact absurd h7 (by show ¬ G.length≤20;omega))]
    rfl)
 simp only [hg]
 rw [boxes_either (n:=p3.1) (fun S c hl=>by
   simp only []
   cases h8:rints u c 20 with
   | none=>rfl
   | some q =>
     simp only [Option.bind_some]
     rw [if_neg (fun hb=>by
       obtain ⟨-,-,h7,-⟩:=st_txt hb
       exact absurd h7 (by show ¬ S.length≤5;omega))]
     rfl)]
 cases h4:rbs u p3.2 (min p3.1 6).toNat with
 | none=>rfl
 | some p4 =>
 simp only [Option.bind_some]
 cases h5:rints u p4.2 20 with
 | none=>rfl
 | some p5 =>
 simp only [Option.bind_some]
 by_cases hk:sOk p1.1 p2.1 p4.1 p5.1=true
 ·rw [if_pos hk]
  simp only [Option.bind_some];obtain ⟨-,-,k3,-,k5,-⟩:=st_txt hk
  have hn:p3.1≤6:=by
   have:=(rbs_right h4).1;have:=rd_lt (n:=p3.1) (c:=p3.2) h3
   omega
  have h4':ibs u p2.2=some (p4.1,p4.2):=by
   unfold ibs;rw [h3];simp only [Option.bind_some];rw [show min p3.1 6=p3.1 by omega] at h4;exact h4
  have h5':iis u p4.2=some (p5.1,p5.2):=by
   unfold rints at h5;unfold iis
   cases h6:rd u p4.2 with
   | none=>rw [h6] at h5;cases h5
   | some p6 =>
    rw [h6] at h5;simp only [Option.bind_some] at h5 ⊢;have h7:=rds_len h5;have h8:=rd_lt (n:=p6.1) (c:=p6.2) h6;rw [show min p6.1 (20+1)=p6.1 by omega] at h5;exact h5
  have hi:ist u 0=some ((p1.1,p2.1,p4.1,p5.1),p5.2):=by
   unfold ist;rw [h1];simp only [Option.bind_some];rw [h2];simp only [Option.bind_some];rw [h4'];simp only [Option.bind_some];rw [h5'];simp only [Option.bind_some];exact if_pos hk
  obtain ⟨-,e1,e2,e3⟩:=ist_end hi
  have e4:(p5.2=(u.size:Int))↔stx p1.1 p2.1 p4.1 p5.1=u:=by
   have e5:=congrArg List.length e1;rw [List.length_append,List.length_drop,List.length_drop,bl_len,bl_len] at e5;simp only [Int.toNat_zero,List.drop_zero] at e1
   constructor
   ·intro h6
    rw [List.drop_of_length_le (by rw [bl_len];omega),List.append_nil] at e1;exact (bl_inj e1).symm
   intro h6;rw [h6] at e5;simp only [Int.toNat_zero] at e5
   omega
  by_cases h9:p5.2=(u.size:Int)
  ·rw [if_pos h9,if_pos ⟨hk,by rw [e4.1 h9];exact hs⟩]
  rw [if_neg h9,if_neg (fun h=>h9 (e4.2 (seal_same.1 (h.2.trans hs.symm))))]
 rw [if_neg hk,if_neg (fun h=>hk h.1)]
 rfl
def Lbx1 (w:World) (k:Nat) (s:ByteArray) (b:Int) (e:Ending) (w':World):Prop :=
 (∃ S Y v c,ibs s b=some (S,c)∧Y.map yd=S∧e=.returned v∧Dg w' k s c∧OwS w' w.heap.size v Y∧w.grownBy w' (some k))∨(ibs s b=none∧e=.panicked notHere∧w.grownBy w' (some k))
theorem ibs_no {s:ByteArray} {b:Int} (h:rd s b=none):ibs s b=none:=by unfold ibs;rw [h];rfl
theorem ibs_is {s:ByteArray} {b n c:Int} (h:rd s b=some (n,c)):ibs s b=rbs s c n.toNat:=by unfold ibs;rw [h];rfl
theorem rbs_cut {s:ByteArray} {a:Int} {m n:Nat} (h:rbs s a n=none) (hm:n≤m):rbs s a m=none:=by
 obtain ⟨j,rfl⟩:∃ j,m=n+j:=⟨m - n,by omega⟩;exact rbs_dead h j
theorem lboxes_any (k:Nat) (s:ByteArray) (b0:Int) (w:World) (hs:s.size≤1048576) (hc:Dg w k s b0) :
  Calls Tryz.prog 84 #[.pointer (some ⟨k,0,none⟩),.func (.func 51) #[] #[]] w fun e w'=>Lbx1 w k s b0 e w':=by
 have HK:=hid hc.lt;have HC:=hid hc;have HSZ:=hid hs;clear hc hs
 go_enter Tryz.func84,Tryz.ntmps84
 go_wp2_with fail
 refine (numr_any k s b0 _ HSZ.out HC.out).mono ?_;rintro e w1 (⟨n,b1,hr,rfl,hd,hg⟩ | ⟨hr,rfl,hg⟩)
 case inr =>
  have H:=hid (ibs_no hr);have G:=hid hg;clear hr hg
  go_wp2_with fail
  exact ⟨rfl,Or.inr ⟨H.out,rfl,G.out⟩⟩
 have HR:=hid hr;have HN:=hid (rd_lt hr);have C1:=hid hd;have G1:=hid hg;have hnn:0≤n∧n≤1000000000:=⟨HN.out.2.2.2.1,HN.out.2.2.2.2⟩;clear hr hd hg HC
 go_wp2
 obtain ⟨mx,hmx⟩:∃ m:Nat,(m:Int)=n:=⟨n.toNat,by omega⟩;have HMX:Hid (mx=n.toNat):=hid (by omega)
 go_loopw [5,8] (fun ov iv wr=>∃ (i:Nat) (Z:List Y9) (b2:Int),i≤mx∧iv=.int .i64 (i:Int)∧Hid (Z.length=i)∧OwS wr w.heap.size ov Z∧Dg wr k s b2∧Hid (rbs s b1 Z.length=some (Z.map yd,b2))∧w.grownBy wr (some k)) (fun _ iv _=>mx - (intOf iv).toNat)
 case atStart=>exact ⟨0,[],b1,Nat.zero_le _,rfl,rfl,ownS_nil _ _,C1.out,rfl,G1.out⟩
 case round =>
  obtain ⟨i,Z,b2,hi,rfl,HL,ho,hc,HQ,hg⟩:=hrel;have XO:=hid ho;have XC:=hid hc;have XG:=hid hg;clear ho hc hg C1 G1
  by_cases hlt:(i:Int)<n
  ·go_wp2_with fail
   refine (rbox_any k s b2 _ HSZ.out XC.out).mono ?_;rintro e w3 (⟨g,nm,t,b,nx,L,G,b3,ma,mc,ga,gc,hr3,rfl,hd3,ho3,hg3⟩ | ⟨hr3,rfl,hg3⟩)
   case inr =>
    have H:Hid (ibs s b0=none):=hid (by
      rw [ibs_is HR.out,← HMX.out]
      exact rbs_cut (rbs_stop HQ.out ((ibx_rbx s b2).symm.trans hr3)) (by rw [HL.out];omega))
    have G:=hid (wtr XG.out hg3);clear hr3 hg3
    go_wp2_with fail
    exact ⟨rfl,Or.inr ⟨H.out,rfl,G.out⟩⟩
   have H3:=hid ((ibx_rbx s b2).symm.trans hr3);have C3:=hid hd3;have G3:=hid (wtr XG.out hg3);have hk:=HK.out;have hs0:=XG.out.size;have hs4:=hg3.size;have Z3:=hid (XO.out.grown hg3 hk);have HMV:Hid (∀ j,u5.ownBlock=some j→j<wr.heap.size∨w3.heap.size≤j):=hid (fun j hj=>.inl (XO.out.row.lt j hj).2);have HEV:Hid (∀ y∈Z,y.hi≤wr.heap.size∨w3.heap.size≤y.lo):=hid (fun y hy=>.inl (XO.out.each y hy).1.top);have O3:=hid ho3.owx;have hs3:=G3.out.size;have HLE:Hid (Z.length≤1048576):=hid (by have h1:=rbs_end HQ.out;have h2:=HSZ.out;have h3:=HN.out;have h4:=ibx_end hr3;omega);obtain ⟨mn,hmn⟩:∃ n,L.length=n:=⟨_,rfl⟩;obtain ⟨gn,hgn⟩:∃ n,G.length=n:=⟨_,rfl⟩;rw [hmn,hgn] at O3;rw [hmn,hgn];clear hr3 hd3 hg3 ho3 hk hmn hgn hs4
   go_wp2_with (at_builtin;refine wpList_append_bx rfl (.tmp 10) (.tmp 14) rfl w.heap.size _ Z (by rfl) ⟨g,nm,t,b,nx,.slice ma mn mc,.slice ga gn gc,L,G,wr.heap.size,w3.heap.size⟩ Z3.out O3.out hs0 HMV.out HEV.out (by rfl) HLE.out hs3 ?_;intro v4 w4 hown4 hb4 _ _;have HO4:=hid hown4;have HB4:=hid hb4;clear hown4 hb4)
   go_roundw
   case rel=>exact ⟨i+1,Z++[(⟨g,nm,t,b,nx,.slice ma mn mc,.slice ga gn gc,L,G,wr.heap.size,w3.heap.size⟩:Y9)],b3,by omega,by go_num,hid (by show (Z++[_]).length=i+1;rw [List.length_append,HL.out];rfl),HO4.out,(HB4.out.block k HK.out).trans C3.out,hid (by
     have h2:=rbs_next HQ.out H3.out
     rw [List.length_append,List.map_append]
     exact h2),grown_under G3.out HB4.out (Nat.le_refl _)⟩
   case measure=>simp [intOf];omega
  have HF:Hid (ibs s b0=some (Z.map yd,b2)):=hid (by rw [ibs_is HR.out,← HMX.out,show mx=Z.length by rw [HL.out];omega];exact HQ.out)
  go_wp2
  go_ret
  exact Or.inl ⟨Z.map yd,Z,_,b2,HF.out,rfl,rfl,XC.out,XO.out,XG.out⟩
end Go.Proofs.YtdkedgedkgabnaaGreatDoor
