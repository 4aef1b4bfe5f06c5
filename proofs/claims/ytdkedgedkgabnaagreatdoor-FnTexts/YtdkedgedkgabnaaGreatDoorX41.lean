/- Te1. -/
import Derived.Test.YtdkedgedkgabnaaGreatDoorX39
import Derived.Test.YtdkedgedkgabnaaGreatDoorX40
namespace Go.Proofs.YtdkedgedkgabnaaGreatDoor
open Go.RowKit Go.ChangeMaps
set_option maxHeartbeats 16000000
set_option maxRecDepth 100000
structure Sk (W:World) (k:Nat) (y tm:Int) (ba:Option Addr) (bc:Nat) (ga:Option Addr) (gc:Nat) (S:List X7) (G:List Int):Prop where
 sx:Sx W k 27 y tm (.slice ba S.length bc) (.slice ga G.length gc)
 tz:Tz W ba S.length bc ga G.length gc S G
theorem Sk.later {W W':World} {k:Nat} {y tm:Int} {ba:Option Addr} {bc:Nat} {ga:Option Addr} {gc:Nat} {S:List X7} {G:List Int} (h:Sk W k y tm ba bc ga gc S G) (hb:Below W.heap.size W W'):Sk W' k y tm ba bc ga gc S G:=⟨h.sx.later hb,h.tz.later hb⟩
theorem Sk.new {w:World} (y tm:Int) {ba:Option Addr} {bc:Nat} {ga:Option Addr} {gc:Nat} {S:List X7} {G:List Int} (h:Tz w ba S.length bc ga G.length gc S G):Sk (w.alloc (.cells #[.int .i64 y,.int .i64 tm,.slice ba S.length bc,.slice ga G.length gc] 27)) w.heap.size y tm ba bc ga gc S G:=⟨Sx.new w _ y tm _ _,h.later (bpush (bre _) _)⟩
structure Bk (W:World) (k:Nat) (g:Int) (nm:ByteArray) (t b nx:Int) (ma:Option Addr) (mc:Nat) (ha:Option Addr) (hc:Nat) (L:List M4) (H:List Int):Prop where
 bx:Bx W k 38 g nm t b nx (.slice ma L.length mc) (.slice ha H.length hc)
 bz:Bz W ma L.length mc ha H.length hc L H
theorem Bk.later {W W':World} {k:Nat} {g:Int} {nm:ByteArray} {t b nx:Int} {ma:Option Addr} {mc:Nat} {ha:Option Addr} {hc:Nat} {L:List M4} {H:List Int} (h:Bk W k g nm t b nx ma mc ha hc L H) (hb:Below W.heap.size W W'):Bk W' k g nm t b nx ma mc ha hc L H:=⟨h.bx.later hb,h.bz.later hb⟩
theorem Bk.new {w:World} (g:Int) (nm:ByteArray) (t b nx:Int) {ma:Option Addr} {mc:Nat} {ha:Option Addr} {hc:Nat} {L:List M4} {H:List Int} (h:Bz w ma L.length mc ha H.length hc L H):Bk (w.alloc (.cells #[.int .i64 g,.string nm,.int .i64 t,.int .i64 b,.int .i64 nx,.slice ma L.length mc,.slice ha H.length hc] 38)) w.heap.size g nm t b nx ma mc ha hc L H:=⟨Bx.new w _ g nm t b nx _ _,h.later (bpush (bre _) _)⟩
theorem storeText_tz (y tm:Int) {ba:Option Addr} {bc:Nat} {ga:Option Addr} {gc:Nat} {S:List X7} {G:List Int} (w:World) (h:Tz w ba S.length bc ga G.length gc S G) (hn:Nib w) :
  Calls Tryz.prog 7 #[.agg #[.int .i64 y,.int .i64 tm,.slice ba S.length bc,.slice ga G.length gc]] w fun e w'=>e=.returned (stR y tm S G)∧Below w.heap.size w w':=by
 obtain ⟨lo,hi,h⟩:=h;exact implStoreText_any _ _ _ _ y tm ba _ bc ga _ gc S G w rfl h.most h.sb h.boxes rfl h.gmost h.gone hn
theorem boxText_bz (g:Int) (nm:ByteArray) (t b nx:Int) {ma:Option Addr} {mc:Nat} {ha:Option Addr} {hc:Nat} {L:List M4} {H:List Int} (w:World) (hn:nm.size≤1048576) (h:Bz w ma L.length mc ha H.length hc L H) :
  Calls Tryz.prog 12 #[.agg #[.int .i64 g,.string nm,.int .i64 t,.int .i64 b,.int .i64 nx,.slice ma L.length mc,.slice ha H.length hc]] w fun e w'=>e=.returned (btR g nm t b nx L H)∧Below w.heap.size w w':=by
 obtain ⟨l1,h1,hm⟩:=h.mails;obtain ⟨l2,h2,hg⟩:=h.gone;exact implBoxText_any _ _ _ _ g nm t b nx ma _ mc ha _ hc L H w hn rfl h.most h.sm hm rfl h.gmost hg
theorem joinH {P:Program} {md:Region.Mode} {ops:Array Oper} {Q:Exit→Act→World→Prop} {S:World→Prop} {fuel:Nat} {listed:Array Bool} {a:Act} {w:World} (T:(Act→World→Prop)→Act→Prop) (f2:Nat) (L:Array Bool→Array Bool) (h2:T (fun a' w'=>wpAnyH P md ops Q S f2 (L listed) a' w') a) (h1:T (fun a' w'=>wpAnyH P md ops Q S f2 (L listed) a' w') a→wpAnyH P md ops Q S fuel listed a w):wpAnyH P md ops Q S fuel listed a w:=h1 h2
theorem lawTexts_any (ao:Option Addr) (n cap:Nat) (w:World) (hcode:Code w w.heap.size ao n) (hnb:Nib w) :
  Calls Tryz.prog 3 #[.slice ao n cap] w fun e w'=>e=.returned (.bool true)∧Below w.heap.size w w':=by
 have HO:=hid hcode;have HNB:=hid hnb;clear hcode hnb
 by_cases hbig:n≤1048576
 case neg =>
  go_enter Tryz.func3,Tryz.ntmps3
  go_wp2_with fail
  refine (bigM_yes ao n cap _ (by omega)).mono ?_;rintro e w' ⟨rfl,h'⟩;subst h'
  go_wp2_with fail
  go_ret
  exact ⟨rfl,bre _⟩
 go_enter Tryz.func3,Tryz.ntmps3
 go_wp2_with fail
 refine (bigM_no ao n cap _ hbig).mono ?_;rintro e w' ⟨rfl,h'⟩;subst h'
 go_wp2_with fail
 refine (drawStoreText_any ao n cap _ hbig HO.out).mono ?_;rintro e w1 ⟨y1,tm1,ba1,bn1,bc1,ga1,gn1,gc1,S1,G1,rfl,-,ht,hb⟩;obtain rfl:=ht.len;obtain rfl:=ht.glen;have K1:=hid (Sk.new y1 tm1 ht);have BB:=hid (bpush hb (.cells #[.int .i64 y1,.int .i64 tm1,.slice ba1 S1.length bc1,.slice ga1 G1.length gc1] 27));obtain ⟨x1,ok1,hx,hxs,hok,hxe⟩:=stR_k y1 tm1 S1 G1;have HX:=hid hx;have HOK:=hid hok;have HXE:=hid hxe;have HXS:=hid hxs;clear ht hb hx hok hxe hxs;have e1:=K1.out.sx.cells
 go_wp2_with fail
 refine (storeText_tz y1 tm1 _ K1.out.tz (HNB.out.on BB.out)).mono ?_;rintro e w2 ⟨rfl,hb⟩;rw [HX.out];clear e1 HX;replace K1:=hid (K1.out.later hb);replace BB:=hid (btr BB.out hb);clear hb;obtain ⟨⟨y2,tm2,S2,G2,q2⟩,hq2⟩:∃ y,rsF x1=y:=⟨_,rfl⟩;have HQ2:=hid hq2;clear hq2
 go_wp2_with fail
 refine (implReadStore_any x1 _ (by have:=HXS.out;omega) (HNB.out.on BB.out)).mono ?_;intro e w3 hp;obtain ⟨ba2,bc2,ga2,gc2,rfl,ht,hb⟩:=hp.f HQ2.out;replace K1:=hid (K1.out.later hb);replace BB:=hid (btr BB.out hb);have K2:=hid (Sk.new y2 tm2 ht);have N3:=bpush (bre w3) (.cells #[.int .i64 y2,.int .i64 tm2,.slice ba2 S2.length bc2,.slice ga2 G2.length gc2] 27);replace K1:=hid (K1.out.later N3);replace BB:=hid (bpush BB.out (.cells #[.int .i64 y2,.int .i64 tm2,.slice ba2 S2.length bc2,.slice ga2 G2.length gc2] 27));clear N3;clear ht hb hp
 go_wp2_with fail
 refine (drawReadStore_any ao n cap _ hbig (HO.out.low BB.out BB.out.size)).mono ?_;rintro e w4 ⟨u,rfl,hu,hb⟩;have HU:=hid hu;replace K1:=hid (K1.out.later hb);replace K2:=hid (K2.out.later hb);replace BB:=hid (btr BB.out hb);clear hb hu;obtain ⟨⟨y3,tm3,S3,G3,q3⟩,hq3⟩:∃ y,rsF u=y:=⟨_,rfl⟩;have HQ3:=hid hq3;clear hq3
 go_wp2_with fail
 refine (implReadStore_any u _ (by have:=HU.out;omega) (HNB.out.on BB.out)).mono ?_;intro e w5 hp;obtain ⟨ba3,bc3,ga3,gc3,rfl,ht,hb⟩:=hp.f HQ3.out;replace K1:=hid (K1.out.later hb);replace K2:=hid (K2.out.later hb);replace BB:=hid (btr BB.out hb);have K3:=hid (Sk.new y3 tm3 ht);have N5:=bpush (bre w5) (.cells #[.int .i64 y3,.int .i64 tm3,.slice ba3 S3.length bc3,.slice ga3 G3.length gc3] 27);replace K1:=hid (K1.out.later N5);replace K2:=hid (K2.out.later N5);replace BB:=hid (bpush BB.out (.cells #[.int .i64 y3,.int .i64 tm3,.slice ba3 S3.length bc3,.slice ga3 G3.length gc3] 27));clear N5;clear ht hb hp
 go_wp2_with fail
 refine (specReadStore_any u _ (by have:=HU.out;omega)).mono ?_;intro e w6 hp;obtain ⟨ba4,bc4,ga4,gc4,rfl,ht,hb⟩:=hp.f HQ3.out;replace K1:=hid (K1.out.later hb);replace K2:=hid (K2.out.later hb);replace K3:=hid (K3.out.later hb);replace BB:=hid (btr BB.out hb);have N6:=bpush (bre w6) (.cells #[.int .i64 y3,.int .i64 tm3,.slice ba4 S3.length bc4,.slice ga4 G3.length gc4] 27);replace K1:=hid (K1.out.later N6);replace K2:=hid (K2.out.later N6);replace K3:=hid (K3.out.later N6);replace BB:=hid (bpush BB.out (.cells #[.int .i64 y3,.int .i64 tm3,.slice ba4 S3.length bc4,.slice ga4 G3.length gc4] 27));clear N6;clear ht hb hp;obtain ⟨x3,ok3,hx,hxs,hok,hxe⟩:=stR_k y3 tm3 S3 G3;have HX:=hid hx;have HXE3:=hid hxe;have HOK3:=hid hok;clear hx hxs hok hxe;have e1:=K3.out.sx.cells
 go_wp2_with fail
 refine (storeText_tz y3 tm3 _ K3.out.tz (HNB.out.on BB.out)).mono ?_;rintro e w7 ⟨rfl,hb⟩;rw [HX.out];clear e1 HX;replace K1:=hid (K1.out.later hb);replace K2:=hid (K2.out.later hb);replace K3:=hid (K3.out.later hb);replace BB:=hid (btr BB.out hb);clear hb K3
 go_wp2_with fail
 refine (drawBoxText_any ao n cap _ hbig (HO.out.low BB.out BB.out.size)).mono ?_;rintro e w8 ⟨g5,nm5,t5,b5,nx5,ma5,mn5,mc5,ha5,hn5,hc5,L5,H5,rfl,hz,hb⟩;obtain ⟨hz,hnm⟩:=hz.bz;obtain rfl:=hz.len;obtain rfl:=hz.glen;have HNM:Hid (nm5.size≤1048576):=Nat.le_trans hnm (by decide);replace K1:=hid (K1.out.later hb);replace K2:=hid (K2.out.later hb);replace BB:=hid (btr BB.out hb);have K5:=hid (Bk.new g5 nm5 t5 b5 nx5 hz);have N8:=bpush (bre w8) (.cells #[.int .i64 g5,.string nm5,.int .i64 t5,.int .i64 b5,.int .i64 nx5,.slice ma5 L5.length mc5,.slice ha5 H5.length hc5] 38);replace K1:=hid (K1.out.later N8);replace K2:=hid (K2.out.later N8);replace BB:=hid (bpush BB.out (.cells #[.int .i64 g5,.string nm5,.int .i64 t5,.int .i64 b5,.int .i64 nx5,.slice ma5 L5.length mc5,.slice ha5 H5.length hc5] 38));clear N8;clear hz hb hnm;obtain ⟨v,ok5,hx,hxs,hok,hxe⟩:=btR_k g5 nm5 t5 b5 nx5 L5 H5;have HX:=hid hx;have HXE5:=hid hxe;have HOK5:=hid hok;have HXS5:=hid hxs;clear hx hxs hok hxe;have e1:=K5.out.bx.cells
 go_wp2_with fail
 refine (boxText_bz g5 nm5 t5 b5 nx5 _ HNM.out K5.out.bz).mono ?_;rintro e w9 ⟨rfl,hb⟩;rw [HX.out];clear e1 HX;replace K1:=hid (K1.out.later hb);replace K2:=hid (K2.out.later hb);replace K5:=hid (K5.out.later hb);replace BB:=hid (btr BB.out hb);clear hb;obtain ⟨vv,hvv⟩:∃ y,(⟨#[120]⟩:ByteArray)++v++(⟨#[121]⟩:ByteArray)=y:=⟨_,rfl⟩
 have HVS:Hid (vv.size≤1048576):=by
  have:=HXS5.out;rw [← hvv,ByteArray.size_append,ByteArray.size_append]
  show 1+v.size+1≤_
  omega
 have HVV:=hid hvv;obtain ⟨⟨⟨g6,nm6,t6,b6,nx6,L6,H6⟩,c6,q6⟩,hq6⟩:∃ y,rbF vv 1=y:=⟨_,rfl⟩;have HQ6:=hid hq6;clear hq6;have hvs:=HXS5.out
 go_wp2_with fail
 clear hvs;refine (implReadBox_any vv 1 _ (by exact HVS.out)).mono ?_;intro e w10 hp;obtain ⟨ma6,mc6,ha6,hc6,rfl,hz,hb⟩:=hp.f HQ6.out;replace K1:=hid (K1.out.later hb);replace K2:=hid (K2.out.later hb);replace K5:=hid (K5.out.later hb);replace BB:=hid (btr BB.out hb);have K6:=hid (Bk.new g6 nm6 t6 b6 nx6 hz);have N10:=bpush (bre w10) (.cells #[.int .i64 g6,.string nm6,.int .i64 t6,.int .i64 b6,.int .i64 nx6,.slice ma6 L6.length mc6,.slice ha6 H6.length hc6] 38);replace K1:=hid (K1.out.later N10);replace K2:=hid (K2.out.later N10);replace K5:=hid (K5.out.later N10);replace BB:=hid (bpush BB.out (.cells #[.int .i64 g6,.string nm6,.int .i64 t6,.int .i64 b6,.int .i64 nx6,.slice ma6 L6.length mc6,.slice ha6 H6.length hc6] 38));clear N10;clear hz hb hp hvv
 go_wp2_with fail
 refine (drawReadBox_any ao n cap _ hbig (HO.out.low BB.out BB.out.size)).mono ?_;rintro e w11 ⟨s7,a7,rfl,hs7,-,hb⟩;have HS7:=hid hs7;replace K1:=hid (K1.out.later hb);replace K2:=hid (K2.out.later hb);replace K5:=hid (K5.out.later hb);replace K6:=hid (K6.out.later hb);replace BB:=hid (btr BB.out hb);clear hb hs7;obtain ⟨⟨⟨g7,nm7,t7,b7,nx7,L7,H7⟩,c7,q7⟩,hq7⟩:∃ y,rbF s7 (a7:Int)=y:=⟨_,rfl⟩;have HQ7:=hid hq7;clear hq7
 go_wp2_with fail
 refine (implReadBox_any s7 (a7:Int) _ (by have:=HS7.out;omega)).mono ?_;intro e w12 hp;obtain ⟨ma7,mc7,ha7,hc7,rfl,hz,hb⟩:=hp.f HQ7.out;replace K1:=hid (K1.out.later hb);replace K2:=hid (K2.out.later hb);replace K5:=hid (K5.out.later hb);replace K6:=hid (K6.out.later hb);replace BB:=hid (btr BB.out hb);have K7:=hid (Bk.new g7 nm7 t7 b7 nx7 hz);have N12:=bpush (bre w12) (.cells #[.int .i64 g7,.string nm7,.int .i64 t7,.int .i64 b7,.int .i64 nx7,.slice ma7 L7.length mc7,.slice ha7 H7.length hc7] 38);replace K1:=hid (K1.out.later N12);replace K2:=hid (K2.out.later N12);replace K5:=hid (K5.out.later N12);replace K6:=hid (K6.out.later N12);replace BB:=hid (bpush BB.out (.cells #[.int .i64 g7,.string nm7,.int .i64 t7,.int .i64 b7,.int .i64 nx7,.slice ma7 L7.length mc7,.slice ha7 H7.length hc7] 38));clear N12;clear hz hb hp
 go_wp2_with fail
 refine (specReadBox_any s7 (a7:Int) _ (by have:=HS7.out;omega)).mono ?_;intro e w13 hp;obtain ⟨ma8,mc8,ha8,hc8,rfl,hz,hb⟩:=hp.f HQ7.out;replace K1:=hid (K1.out.later hb);replace K2:=hid (K2.out.later hb);replace K5:=hid (K5.out.later hb);replace K6:=hid (K6.out.later hb);replace K7:=hid (K7.out.later hb);replace BB:=hid (btr BB.out hb);have K8:=hid (Bk.new g7 nm7 t7 b7 nx7 hz);have N13:=bpush (bre w13) (.cells #[.int .i64 g7,.string nm7,.int .i64 t7,.int .i64 b7,.int .i64 nx7,.slice ma8 L7.length mc8,.slice ha8 H7.length hc8] 38);replace K1:=hid (K1.out.later N13);replace K2:=hid (K2.out.later N13);replace K5:=hid (K5.out.later N13);replace K6:=hid (K6.out.later N13);replace K7:=hid (K7.out.later N13);replace BB:=hid (bpush BB.out (.cells #[.int .i64 g7,.string nm7,.int .i64 t7,.int .i64 b7,.int .i64 nx7,.slice ma8 L7.length mc8,.slice ha8 H7.length hc8] 38));clear N13;clear hz hb hp
 go_wp2_with fail
 refine (drawSameStore_any ao n cap _ hbig (HO.out.low BB.out BB.out.size)).mono ?_;rintro e w14 ⟨y9,tm9,ba9,bn9,bc9,ga9,gn9,gc9,S9,G9,y0,tm0,ba0,bn0,bc0,ga0,gn0,gc0,S0,G0,rfl,ht,ht0,hb⟩;obtain rfl:=ht.len;obtain rfl:=ht.glen;obtain rfl:=ht0.len;obtain rfl:=ht0.glen;replace K1:=hid (K1.out.later hb);replace K2:=hid (K2.out.later hb);replace K5:=hid (K5.out.later hb);replace K6:=hid (K6.out.later hb);replace K7:=hid (K7.out.later hb);replace K8:=hid (K8.out.later hb);replace BB:=hid (btr BB.out hb);have HT9:=hid ht;have HT0:=hid ht0;clear hb ht ht0
 have hs14:(w14.alloc (.cells #[.int .i64 y9,.int .i64 tm9,.slice ba9 S9.length bc9,.slice ga9 G9.length gc9] 27)).heap.size=w14.heap.size+1:=by simp
 have P9:=bpush (bre w14) (.cells #[.int .i64 y9,.int .i64 tm9,.slice ba9 S9.length bc9,.slice ga9 G9.length gc9] 27);have P0:=bpush (bre (w14.alloc (.cells #[.int .i64 y9,.int .i64 tm9,.slice ba9 S9.length bc9,.slice ga9 G9.length gc9] 27))) (.cells #[.int .i64 y0,.int .i64 tm0,.slice ba0 S0.length bc0,.slice ga0 G0.length gc0] 27);replace K1:=hid ((K1.out.later P9).later P0);replace K2:=hid ((K2.out.later P9).later P0);replace K5:=hid ((K5.out.later P9).later P0);replace K6:=hid ((K6.out.later P9).later P0);replace K7:=hid ((K7.out.later P9).later P0);replace K8:=hid ((K8.out.later P9).later P0);have K9:=hid ((Sk.new y9 tm9 HT9.out).later P0);have K0:=hid (Sk.new y0 tm0 (HT0.out.later P9));rw [hs14] at K0;replace BB:=hid (bpush (bpush BB.out (.cells #[.int .i64 y9,.int .i64 tm9,.slice ba9 S9.length bc9,.slice ga9 G9.length gc9] 27)) (.cells #[.int .i64 y0,.int .i64 tm0,.slice ba0 S0.length bc0,.slice ga0 G0.length gc0] 27));clear hs14 P9 P0 HT9 HT0
 have E2:Hid (ok1=true→(y2,tm2,S2,G2,q2)=(y1,tm1,S1,G1,true)):=fun h=>by
  rw [← HQ2.out,HXE.out h];exact rsF_here (HOK.out.symm.trans h)
 have E3:Hid (q3=true→x3=u):=fun h=>by
  obtain ⟨h1,h2⟩:=rsF_size HQ3.out h;rw [HXE3.out (HOK3.out.trans h1),h2]
 have E6:Hid (ok5=true→((g6,nm6,t6,b6,nx6,L6,H6),c6,q6)=((g5,nm5,t5,b5,nx5,L5,H5),1+(v.size:Int),true)):=fun h=>by
  rw [← HQ6.out,← HVV.out,HXE5.out h];exact rbF_here (HOK5.out.symm.trans h)
 have hvs:=HXS5.out;have hw1:IntKind.i64.wrap ((1:Int)+(v.size:Int))=1+(v.size:Int):=wrap_small _ (by omega) (by omega);clear HQ2 HQ3 HQ6 HQ7 HXE HXE3 HXE5 HVV HVS HXS HXS5 HU HS7 HOK3 hvs
 go_wp2_with fail
 obtain ⟨W16,hW16⟩:∃ W,(w14.alloc (.cells #[.int .i64 y9,.int .i64 tm9,.slice ba9 S9.length bc9,.slice ga9 G9.length gc9] 27)).alloc (.cells #[.int .i64 y0,.int .i64 tm0,.slice ba0 S0.length bc0,.slice ga0 G0.length gc0] 27)=W:=⟨_,rfl⟩;obtain ⟨k9,hk9⟩:∃ k,w14.heap.size=k:=⟨_,rfl⟩;rw [hW16] at K1 K2 K5 K6 K7 K8 K9 K0 BB;rw [hk9] at K9 K0;rw [hW16,hk9];clear hW16 hk9
 have HC:Hid (∀ W,Below W16.heap.size W16 W→((W.cell? ⟨w1.heap.size,0,none⟩=some (.int .i64 y1)∧W.cell? ⟨w1.heap.size,1,none⟩=some (.int .i64 tm1)∧W.cell? ⟨w1.heap.size,2,none⟩=some (.slice ba1 S1.length bc1)∧W.cell? ⟨w1.heap.size,3,none⟩=some (.slice ga1 G1.length gc1))∧(W.cell? ⟨w3.heap.size,0,none⟩=some (.int .i64 y2)∧W.cell? ⟨w3.heap.size,1,none⟩=some (.int .i64 tm2)∧W.cell? ⟨w3.heap.size,2,none⟩=some (.slice ba2 S2.length bc2)∧W.cell? ⟨w3.heap.size,3,none⟩=some (.slice ga2 G2.length gc2))∧(W.cell? ⟨w8.heap.size,0,none⟩=some (.int .i64 g5)∧W.cell? ⟨w8.heap.size,1,none⟩=some (.string nm5)∧W.cell? ⟨w8.heap.size,2,none⟩=some (.int .i64 t5)∧W.cell? ⟨w8.heap.size,3,none⟩=some (.int .i64 b5)∧W.cell? ⟨w8.heap.size,4,none⟩=some (.int .i64 nx5)∧W.cell? ⟨w8.heap.size,5,none⟩=some (.slice ma5 L5.length mc5)∧W.cell? ⟨w8.heap.size,6,none⟩=some (.slice ha5 H5.length hc5))∧(W.cell? ⟨w10.heap.size,0,none⟩=some (.int .i64 g6)∧W.cell? ⟨w10.heap.size,1,none⟩=some (.string nm6)∧W.cell? ⟨w10.heap.size,2,none⟩=some (.int .i64 t6)∧W.cell? ⟨w10.heap.size,3,none⟩=some (.int .i64 b6)∧W.cell? ⟨w10.heap.size,4,none⟩=some (.int .i64 nx6)∧W.cell? ⟨w10.heap.size,5,none⟩=some (.slice ma6 L6.length mc6)∧W.cell? ⟨w10.heap.size,6,none⟩=some (.slice ha6 H6.length hc6))∧(W.cell? ⟨w12.heap.size,0,none⟩=some (.int .i64 g7)∧W.cell? ⟨w12.heap.size,1,none⟩=some (.string nm7)∧W.cell? ⟨w12.heap.size,2,none⟩=some (.int .i64 t7)∧W.cell? ⟨w12.heap.size,3,none⟩=some (.int .i64 b7)∧W.cell? ⟨w12.heap.size,4,none⟩=some (.int .i64 nx7)∧W.cell? ⟨w12.heap.size,5,none⟩=some (.slice ma7 L7.length mc7)∧W.cell? ⟨w12.heap.size,6,none⟩=some (.slice ha7 H7.length hc7))∧(W.cell? ⟨w13.heap.size,0,none⟩=some (.int .i64 g7)∧W.cell? ⟨w13.heap.size,1,none⟩=some (.string nm7)∧W.cell? ⟨w13.heap.size,2,none⟩=some (.int .i64 t7)∧W.cell? ⟨w13.heap.size,3,none⟩=some (.int .i64 b7)∧W.cell? ⟨w13.heap.size,4,none⟩=some (.int .i64 nx7)∧W.cell? ⟨w13.heap.size,5,none⟩=some (.slice ma8 L7.length mc8)∧W.cell? ⟨w13.heap.size,6,none⟩=some (.slice ha8 H7.length hc8))∧(W.cell? ⟨k9,0,none⟩=some (.int .i64 y9)∧W.cell? ⟨k9,1,none⟩=some (.int .i64 tm9)∧W.cell? ⟨k9,2,none⟩=some (.slice ba9 S9.length bc9)∧W.cell? ⟨k9,3,none⟩=some (.slice ga9 G9.length gc9))∧(W.cell? ⟨(k9+1),0,none⟩=some (.int .i64 y0)∧W.cell? ⟨(k9+1),1,none⟩=some (.int .i64 tm0)∧W.cell? ⟨(k9+1),2,none⟩=some (.slice ba0 S0.length bc0)∧W.cell? ⟨(k9+1),3,none⟩=some (.slice ga0 G0.length gc0)))):=fun W hb=>⟨(K1.out.later hb).sx.cells,(K2.out.later hb).sx.cells,(K5.out.later hb).bx.cells,(K6.out.later hb).bx.cells,(K7.out.later hb).bx.cells,(K8.out.later hb).bx.cells,(K9.out.later hb).sx.cells,(K0.out.later hb).sx.cells⟩
 have BV:Hid (Below W16.heap.size W16 W16.drew):=bdr (bre W16);dsimp only [List.append];refine wp_region_noPanic ?_
 refine wp_region_held_drew (S:=(fun W=>(W.cell? ⟨w1.heap.size,0,none⟩=some (.int .i64 y1)∧W.cell? ⟨w1.heap.size,1,none⟩=some (.int .i64 tm1)∧W.cell? ⟨w1.heap.size,2,none⟩=some (.slice ba1 S1.length bc1)∧W.cell? ⟨w1.heap.size,3,none⟩=some (.slice ga1 G1.length gc1))∧(W.cell? ⟨w3.heap.size,0,none⟩=some (.int .i64 y2)∧W.cell? ⟨w3.heap.size,1,none⟩=some (.int .i64 tm2)∧W.cell? ⟨w3.heap.size,2,none⟩=some (.slice ba2 S2.length bc2)∧W.cell? ⟨w3.heap.size,3,none⟩=some (.slice ga2 G2.length gc2))∧(W.cell? ⟨w8.heap.size,0,none⟩=some (.int .i64 g5)∧W.cell? ⟨w8.heap.size,1,none⟩=some (.string nm5)∧W.cell? ⟨w8.heap.size,2,none⟩=some (.int .i64 t5)∧W.cell? ⟨w8.heap.size,3,none⟩=some (.int .i64 b5)∧W.cell? ⟨w8.heap.size,4,none⟩=some (.int .i64 nx5)∧W.cell? ⟨w8.heap.size,5,none⟩=some (.slice ma5 L5.length mc5)∧W.cell? ⟨w8.heap.size,6,none⟩=some (.slice ha5 H5.length hc5))∧(W.cell? ⟨w10.heap.size,0,none⟩=some (.int .i64 g6)∧W.cell? ⟨w10.heap.size,1,none⟩=some (.string nm6)∧W.cell? ⟨w10.heap.size,2,none⟩=some (.int .i64 t6)∧W.cell? ⟨w10.heap.size,3,none⟩=some (.int .i64 b6)∧W.cell? ⟨w10.heap.size,4,none⟩=some (.int .i64 nx6)∧W.cell? ⟨w10.heap.size,5,none⟩=some (.slice ma6 L6.length mc6)∧W.cell? ⟨w10.heap.size,6,none⟩=some (.slice ha6 H6.length hc6))∧(W.cell? ⟨w12.heap.size,0,none⟩=some (.int .i64 g7)∧W.cell? ⟨w12.heap.size,1,none⟩=some (.string nm7)∧W.cell? ⟨w12.heap.size,2,none⟩=some (.int .i64 t7)∧W.cell? ⟨w12.heap.size,3,none⟩=some (.int .i64 b7)∧W.cell? ⟨w12.heap.size,4,none⟩=some (.int .i64 nx7)∧W.cell? ⟨w12.heap.size,5,none⟩=some (.slice ma7 L7.length mc7)∧W.cell? ⟨w12.heap.size,6,none⟩=some (.slice ha7 H7.length hc7))∧(W.cell? ⟨w13.heap.size,0,none⟩=some (.int .i64 g7)∧W.cell? ⟨w13.heap.size,1,none⟩=some (.string nm7)∧W.cell? ⟨w13.heap.size,2,none⟩=some (.int .i64 t7)∧W.cell? ⟨w13.heap.size,3,none⟩=some (.int .i64 b7)∧W.cell? ⟨w13.heap.size,4,none⟩=some (.int .i64 nx7)∧W.cell? ⟨w13.heap.size,5,none⟩=some (.slice ma8 L7.length mc8)∧W.cell? ⟨w13.heap.size,6,none⟩=some (.slice ha8 H7.length hc8))∧(W.cell? ⟨k9,0,none⟩=some (.int .i64 y9)∧W.cell? ⟨k9,1,none⟩=some (.int .i64 tm9)∧W.cell? ⟨k9,2,none⟩=some (.slice ba9 S9.length bc9)∧W.cell? ⟨k9,3,none⟩=some (.slice ga9 G9.length gc9))∧(W.cell? ⟨(k9+1),0,none⟩=some (.int .i64 y0)∧W.cell? ⟨(k9+1),1,none⟩=some (.int .i64 tm0)∧W.cell? ⟨(k9+1),2,none⟩=some (.slice ba0 S0.length bc0)∧W.cell? ⟨(k9+1),3,none⟩=some (.slice ga0 G0.length gc0)))) (by kernel_rfl) (HC.out _ BV.out) (fun hHeld=>?_)
 refine tk4 0 (some 101) (Op.move (Operand.tmp 5)) 4 (none) ?_;try simp only [Act.put,tq]
 refine tk4 1 (some 102) (Op.load 27 (Operand.tmp 3)) 27 (none) ?_;try simp only [Act.put,tq]
 clear hHeld;refine ry2 2 (some 103) (Op.call { callee:=Callee.value (Operand.func 17),args:=#[Operand.tmp 102],argTypes:=#[27] }) 4 (none) (fun K hK=>?_);go_simp;obtain ⟨lo,hi,ht⟩:=(K1.out.later BV.out).tz;refine (specStoreOk_any _ _ _ _ y1 tm1 ba1 _ bc1 ga1 _ gc1 S1 G1 _ rfl ht.most ht.sb ht.boxes rfl ht.gmost ht.gone).mono ?_;rintro e v1 ⟨rfl,hb⟩;rw [← HOK.out];clear ht;replace BV:=hid (btr BV.out hb);clear hb
 go_wp2_with fail
 refine hK.out _ _ (HC.out _ BV.out) (fun hHeld=>?_);clear hK K;try simp only [Act.put,tq]
 refine tk4 3 (some 104) (Op.binOp BinOp.eql 4 (Operand.tmp 101) (Operand.tmp 103) 4) 4 (none) ?_;try simp only [Act.put,tq]
 refine tk4 4 (some 105) (Op.move (Operand.tmp 104)) 4 (none) ?_;try simp only [Act.put,tq]
 refine joinH (fun X a=>∀ (z106 z107 z108 z109 z110 z111 z112 z113 z114 z115:Value) (w2:World),Below W16.heap.size W16 w2→X (((((((((((a.put (some 106) z106).put (some 107) z107).put (some 108) z108).put (some 109) z109).put (some 110) z110).put (some 111) z111).put (some 112) z112).put (some 113) z113).put (some 114) z114).put (some 115) z115).put (some 116) (.bool true)) w2) 64 (fun l=>(((((((((((l.setIfInBounds 5 true).setIfInBounds 6 true).setIfInBounds 7 true).setIfInBounds 8 true).setIfInBounds 9 true).setIfInBounds 10 true).setIfInBounds 11 true).setIfInBounds 12 true).setIfInBounds 13 true).setIfInBounds 14 true).setIfInBounds 15 true)) ?_ (fun H=>?_)
 rotate_left
 ·simp only [Act.put,List.setIfInBounds_toArray,List.set_cons_zero,List.set_cons_succ] at H
  have HH:=hid H;clear H
  cases ok1
  ·refine tk4 5 (some 106) (Op.move (Operand.tmp 5)) 4 (some (4,true)) ?_
   try simp only [Act.put,tq]
   refine tk4 6 (some 107) (Op.unOp UnOp.not 4 (Operand.tmp 106)) 4 (some (4,true)) ?_;try simp only [Act.put,tq]
   refine tk4 7 (some 108) (Op.move (Operand.tmp 107)) 4 (some (4,true)) ?_;try simp only [Act.put,tq]
   refine tn 8 ?_;refine tn 9 ?_;refine tn 10 ?_;refine tn 11 ?_;refine tn 12 ?_;refine tn 13 ?_;refine tk4 14 (some 115) (Op.pick (Operand.tmp 108) (Operand.const (Value.bool true)) (Operand.tmp 114)) 4 (some (4,true)) ?_;try simp only [Act.put,tq]
   refine tk4 15 (some 116) (Op.pick (Operand.tmp 105) (Operand.tmp 115) (Operand.const (Value.bool false))) 4 (none) ?_;try simp only [Act.put,tq]
   exact HH.out _ _ _ _ _ _ _ _ _ _ _ BV.out
  have h:=E2.out rfl;simp only [Prod.mk.injEq] at h;obtain ⟨rfl,rfl,rfl,rfl,rfl⟩:=h;refine tk4 5 (some 106) (Op.move (Operand.tmp 5)) 4 (some (4,true)) ?_;try simp only [Act.put,tq]
  refine tk4 6 (some 107) (Op.unOp UnOp.not 4 (Operand.tmp 106)) 4 (some (4,true)) ?_;try simp only [Act.put,tq]
  refine tk4 7 (some 108) (Op.move (Operand.tmp 107)) 4 (some (4,true)) ?_;try simp only [Act.put,tq]
  refine tk4 8 (some 109) (Op.move (Operand.tmp 7)) 4 (some (7,false)) ?_;try simp only [Act.put,tq]
  refine tk4 9 (some 110) (Op.move (Operand.tmp 109)) 4 (some (7,false)) ?_;try simp only [Act.put,tq]
  refine tk4 10 (some 111) (Op.load 27 (Operand.tmp 6)) 27 (some (9,true)) ?_;try simp only [Act.put,tq]
  refine tk4 11 (some 112) (Op.load 27 (Operand.tmp 3)) 27 (some (9,true)) ?_;try simp only [Act.put,tq]
  clear hHeld;refine ry2 12 (some 113) (Op.call { callee:=Callee.value (Operand.func 18),args:=#[Operand.tmp 111,Operand.tmp 112],argTypes:=#[27,27] }) 4 (some (9,true)) (fun K hK=>?_);go_simp;refine (sameAll_any _ _ _ _ _ _ _ _ _ _ _ _ _ _ _ (K2.out.later BV.out).tz (K1.out.later BV.out).tz).mono ?_;rintro e v2 ⟨rfl,hb⟩;replace BV:=hid (btr BV.out hb);clear hb
  go_wp2_with fail
  refine hK.out _ _ (HC.out _ BV.out) (fun hHeld=>?_);clear hK K;try simp only [Act.put,tq]
  refine tk4 13 (some 114) (Op.pick (Operand.tmp 110) (Operand.tmp 113) (Operand.const (Value.bool false))) 4 (some (7,false)) ?_;try simp only [Act.put,tq]
  refine tk4 14 (some 115) (Op.pick (Operand.tmp 108) (Operand.const (Value.bool true)) (Operand.tmp 114)) 4 (some (4,true)) ?_;try simp only [Act.put,tq]
  refine tk4 15 (some 116) (Op.pick (Operand.tmp 105) (Operand.tmp 115) (Operand.const (Value.bool false))) 4 (none) ?_;try simp only [Act.put,tq]
  exact HH.out _ _ _ _ _ _ _ _ _ _ _ BV.out
 intro z106 z107 z108 z109 z110 z111 z112 z113 z114 z115 w2 hb;clear hHeld;have hHeld:=HC.out _ hb;replace BV:=hid hb;clear hb;try simp only [Act.put,tq]
 refine tk4 16 (some 117) (Op.move (Operand.tmp 116)) 4 (none) ?_;try simp only [Act.put,tq]
 refine tk4 17 (some 118) (Op.move (Operand.tmp 10)) 4 (some (16,true)) ?_;try simp only [Act.put,tq]
 refine tk4 18 (some 119) (Op.move (Operand.tmp 12)) 4 (some (16,true)) ?_;try simp only [Act.put,tq]
 refine tk4 19 (some 120) (Op.binOp BinOp.eql 4 (Operand.tmp 118) (Operand.tmp 119) 4) 4 (some (16,true)) ?_;try simp only [Act.put,tq]
 refine tk4 20 (some 121) (Op.pick (Operand.tmp 117) (Operand.tmp 120) (Operand.const (Value.bool false))) 4 (none) ?_;try simp only [Act.put,tq]
 refine tk4 21 (some 122) (Op.move (Operand.tmp 121)) 4 (none) ?_;try simp only [Act.put,tq]
 refine joinH (fun X a=>∀ (z123 z124 z125 z126 z127 z128 z129:Value) (w2:World),Below W16.heap.size W16 w2→X ((((((((a.put (some 123) z123).put (some 124) z124).put (some 125) z125).put (some 126) z126).put (some 127) z127).put (some 128) z128).put (some 129) z129).put (some 130) (.bool true)) w2) 50 (fun l=>((((((((l.setIfInBounds 22 true).setIfInBounds 23 true).setIfInBounds 24 true).setIfInBounds 25 true).setIfInBounds 26 true).setIfInBounds 27 true).setIfInBounds 28 true).setIfInBounds 29 true)) ?_ (fun H=>?_)
 rotate_left
 ·simp only [Act.put,List.setIfInBounds_toArray,List.set_cons_zero,List.set_cons_succ] at H
  have HH:=hid H;clear H
  cases q3
  ·refine tk4 22 (some 123) (Op.move (Operand.tmp 10)) 4 (some (21,true)) ?_
   try simp only [Act.put,tq]
   refine tk4 23 (some 124) (Op.unOp UnOp.not 4 (Operand.tmp 123)) 4 (some (21,true)) ?_;try simp only [Act.put,tq]
   refine tk4 24 (some 125) (Op.move (Operand.tmp 124)) 4 (some (21,true)) ?_;try simp only [Act.put,tq]
   refine tn 25 ?_;refine tn 26 ?_;refine tn 27 ?_;refine tk4 28 (some 129) (Op.pick (Operand.tmp 125) (Operand.const (Value.bool true)) (Operand.tmp 128)) 4 (some (21,true)) ?_;try simp only [Act.put,tq]
   refine tk4 29 (some 130) (Op.pick (Operand.tmp 122) (Operand.tmp 129) (Operand.const (Value.bool false))) 4 (none) ?_;try simp only [Act.put,tq]
   exact HH.out _ _ _ _ _ _ _ _ BV.out
  have h:=E3.out rfl;obtain rfl:=h;refine tk4 22 (some 123) (Op.move (Operand.tmp 10)) 4 (some (21,true)) ?_;try simp only [Act.put,tq]
  refine tk4 23 (some 124) (Op.unOp UnOp.not 4 (Operand.tmp 123)) 4 (some (21,true)) ?_;try simp only [Act.put,tq]
  refine tk4 24 (some 125) (Op.move (Operand.tmp 124)) 4 (some (21,true)) ?_;try simp only [Act.put,tq]
  refine tk4 25 (some 126) (Op.move (Operand.tmp 13)) 9 (some (24,false)) ?_;try simp only [Act.put,tq]
  refine tk4 26 (some 127) (Op.move (Operand.tmp 8)) 9 (some (24,false)) ?_;try simp only [Act.put,tq]
  refine tk4 27 (some 128) (Op.binOp BinOp.eql 9 (Operand.tmp 126) (Operand.tmp 127) 9) 4 (some (24,false)) ?_;try simp only [Act.put,tq]
  refine tk4 28 (some 129) (Op.pick (Operand.tmp 125) (Operand.const (Value.bool true)) (Operand.tmp 128)) 4 (some (21,true)) ?_;try simp only [Act.put,tq]
  refine tk4 29 (some 130) (Op.pick (Operand.tmp 122) (Operand.tmp 129) (Operand.const (Value.bool false))) 4 (none) ?_;try simp only [Act.put,tq]
  exact HH.out _ _ _ _ _ _ _ _ BV.out
 intro z123 z124 z125 z126 z127 z128 z129 w2 hb;clear hHeld;have hHeld:=HC.out _ hb;replace BV:=hid hb;clear hb;try simp only [Act.put,tq]
 refine tk4 30 (some 131) (Op.move (Operand.tmp 130)) 4 (none) ?_;try simp only [Act.put,tq]
 refine tk4 31 (some 132) (Op.move (Operand.tmp 17)) 4 (some (30,true)) ?_;try simp only [Act.put,tq]
 refine tk4 32 (some 133) (Op.load 38 (Operand.tmp 15)) 38 (some (30,true)) ?_;try simp only [Act.put,tq]
 clear hHeld;refine ry2 33 (some 134) (Op.call { callee:=Callee.value (Operand.func 19),args:=#[Operand.tmp 133],argTypes:=#[38] }) 4 (some (30,true)) (fun K hK=>?_);go_simp;obtain ⟨l1,h1,hm⟩:=(K5.out.later BV.out).bz.mails;obtain ⟨l2,h2,hg⟩:=(K5.out.later BV.out).bz.gone;refine (specBoxOk_any _ _ _ _ g5 nm5 t5 b5 nx5 ma5 _ mc5 ha5 _ hc5 L5 H5 _ HNM.out rfl K5.out.bz.most K5.out.bz.sm hm rfl K5.out.bz.gmost hg).mono ?_;rintro e v3 ⟨rfl,hb⟩;rw [← HOK5.out];clear hm hg;replace BV:=hid (btr BV.out hb);clear hb
 go_wp2_with fail
 refine hK.out _ _ (HC.out _ BV.out) (fun hHeld=>?_);clear hK K;try simp only [Act.put,tq]
 refine tk4 34 (some 135) (Op.binOp BinOp.eql 4 (Operand.tmp 132) (Operand.tmp 134) 4) 4 (some (30,true)) ?_;try simp only [Act.put,tq]
 refine tk4 35 (some 136) (Op.pick (Operand.tmp 131) (Operand.tmp 135) (Operand.const (Value.bool false))) 4 (none) ?_;try simp only [Act.put,tq]
 refine tk4 36 (some 137) (Op.move (Operand.tmp 136)) 4 (none) ?_;try simp only [Act.put,tq]
 refine joinH (fun X a=>∀ (z138 z139 z140 z141 z142 z143 z144 z145 z146 z147 z148 z149 z150 z151 z152 z153 z154:Value) (w2:World),Below W16.heap.size W16 w2→X ((((((((((((((((((a.put (some 138) z138).put (some 139) z139).put (some 140) z140).put (some 141) z141).put (some 142) z142).put (some 143) z143).put (some 144) z144).put (some 145) z145).put (some 146) z146).put (some 147) z147).put (some 148) z148).put (some 149) z149).put (some 150) z150).put (some 151) z151).put (some 152) z152).put (some 153) z153).put (some 154) z154).put (some 155) (.bool true)) w2) 25 (fun l=>((((((((((((((((((l.setIfInBounds 37 true).setIfInBounds 38 true).setIfInBounds 39 true).setIfInBounds 40 true).setIfInBounds 41 true).setIfInBounds 42 true).setIfInBounds 43 true).setIfInBounds 44 true).setIfInBounds 45 true).setIfInBounds 46 true).setIfInBounds 47 true).setIfInBounds 48 true).setIfInBounds 49 true).setIfInBounds 50 true).setIfInBounds 51 true).setIfInBounds 52 true).setIfInBounds 53 true).setIfInBounds 54 true)) ?_ (fun H=>?_)
 rotate_left
 ·simp only [Act.put,List.setIfInBounds_toArray,List.set_cons_zero,List.set_cons_succ] at H
  have HH:=hid H;clear H
  cases ok5
  ·refine tk4 37 (some 138) (Op.move (Operand.tmp 17)) 4 (some (36,true)) ?_
   try simp only [Act.put,tq]
   refine tk4 38 (some 139) (Op.unOp UnOp.not 4 (Operand.tmp 138)) 4 (some (36,true)) ?_;try simp only [Act.put,tq]
   refine tk4 39 (some 140) (Op.move (Operand.tmp 139)) 4 (some (36,true)) ?_;try simp only [Act.put,tq]
   refine tn 40 ?_;refine tn 41 ?_;refine tn 42 ?_;refine tn 43 ?_;refine tn 44 ?_;refine tn 45 ?_;refine tn 46 ?_;refine tn 47 ?_;refine tn 48 ?_;refine tn 49 ?_;refine tn 50 ?_;refine tn 51 ?_;refine tn 52 ?_;refine tk4 53 (some 154) (Op.pick (Operand.tmp 140) (Operand.const (Value.bool true)) (Operand.tmp 153)) 4 (some (36,true)) ?_;try simp only [Act.put,tq]
   refine tk4 54 (some 155) (Op.pick (Operand.tmp 137) (Operand.tmp 154) (Operand.const (Value.bool false))) 4 (none) ?_;try simp only [Act.put,tq]
   exact HH.out _ _ _ _ _ _ _ _ _ _ _ _ _ _ _ _ _ _ BV.out
  have h:=E6.out rfl;simp only [Prod.mk.injEq] at h;obtain ⟨⟨rfl,rfl,rfl,rfl,rfl,rfl,rfl⟩,rfl,rfl⟩:=h;refine tk4 37 (some 138) (Op.move (Operand.tmp 17)) 4 (some (36,true)) ?_;try simp only [Act.put,tq]
  refine tk4 38 (some 139) (Op.unOp UnOp.not 4 (Operand.tmp 138)) 4 (some (36,true)) ?_;try simp only [Act.put,tq]
  refine tk4 39 (some 140) (Op.move (Operand.tmp 139)) 4 (some (36,true)) ?_;try simp only [Act.put,tq]
  refine tk4 40 (some 141) (Op.move (Operand.tmp 20)) 4 (some (39,false)) ?_;try simp only [Act.put,tq]
  refine tk4 41 (some 142) (Op.move (Operand.tmp 141)) 4 (some (39,false)) ?_;try simp only [Act.put,tq]
  refine tk4 42 (some 143) (Op.load 38 (Operand.tmp 18)) 38 (some (41,true)) ?_;try simp only [Act.put,tq]
  refine tk4 43 (some 144) (Op.load 38 (Operand.tmp 15)) 38 (some (41,true)) ?_;try simp only [Act.put,tq]
  clear hHeld;refine ry2 44 (some 145) (Op.call { callee:=Callee.value (Operand.func 20),args:=#[Operand.tmp 143,Operand.tmp 144],argTypes:=#[38,38] }) 4 (some (41,true)) (fun K hK=>?_);go_simp;refine (sameBox_bz _ _ _ _ _ _ _ _ _ _ _ _ _ _ _ _ _ _ (K6.out.later BV.out).bz (K5.out.later BV.out).bz).mono ?_;rintro e v4 ⟨rfl,hb⟩;replace BV:=hid (btr BV.out hb);clear hb
  go_wp2_with fail
  refine hK.out _ _ (HC.out _ BV.out) (fun hHeld=>?_);clear hK K;try simp only [Act.put,tq]
  refine tk4 45 (some 146) (Op.pick (Operand.tmp 142) (Operand.tmp 145) (Operand.const (Value.bool false))) 4 (some (39,false)) ?_;try simp only [Act.put,tq]
  refine tk4 46 (some 147) (Op.move (Operand.tmp 146)) 4 (some (39,false)) ?_;try simp only [Act.put,tq]
  refine tk4 47 (some 148) (Op.move (Operand.tmp 19)) 3 (some (46,true)) ?_;try simp only [Act.put,tq]
  refine tk4 48 (some 149) (Op.move (Operand.tmp 16)) 9 (some (46,true)) ?_;try simp only [Act.put,tq]
  refine tk4 49 (some 150) (Op.call { callee:=Callee.builtin Builtin.len,args:=#[Operand.tmp 149],argTypes:=#[9] }) 3 (some (46,true)) ?_;try simp only [Act.put,tq]
  refine tk4 50 (some 151) (Op.binOp BinOp.add 3 (Operand.const (Value.int IntKind.i64 1)) (Operand.tmp 150) 3) 3 (some (46,true)) ?_;try simp only [Act.put,tq]
  refine tk4 51 (some 152) (Op.binOp BinOp.eql 3 (Operand.tmp 148) (Operand.tmp 151) 3) 4 (some (46,true)) ?_;try simp only [Act.put,tq]
  refine tk4 52 (some 153) (Op.pick (Operand.tmp 147) (Operand.tmp 152) (Operand.const (Value.bool false))) 4 (some (39,false)) ?_;try simp only [Act.put,tq]
  refine tk4 53 (some 154) (Op.pick (Operand.tmp 140) (Operand.const (Value.bool true)) (Operand.tmp 153)) 4 (some (36,true)) ?_;try simp only [Act.put,tq]
  refine tk4 54 (some 155) (Op.pick (Operand.tmp 137) (Operand.tmp 154) (Operand.const (Value.bool false))) 4 (none) ?_;try simp only [Act.put,tq]
  exact HH.out _ _ _ _ _ _ _ _ _ _ _ _ _ _ _ _ _ _ BV.out
 intro z138 z139 z140 z141 z142 z143 z144 z145 z146 z147 z148 z149 z150 z151 z152 z153 z154 w2 hb;clear hHeld;have hHeld:=HC.out _ hb;replace BV:=hid hb;clear hb;try simp only [Act.put,tq]
 refine tk4 55 (some 156) (Op.move (Operand.tmp 155)) 4 (none) ?_;try simp only [Act.put,tq]
 refine tk4 56 (some 157) (Op.move (Operand.tmp 25)) 4 (some (55,true)) ?_;try simp only [Act.put,tq]
 refine tk4 57 (some 158) (Op.move (Operand.tmp 28)) 4 (some (55,true)) ?_;try simp only [Act.put,tq]
 refine tk4 58 (some 159) (Op.binOp BinOp.eql 4 (Operand.tmp 157) (Operand.tmp 158) 4) 4 (some (55,true)) ?_;try simp only [Act.put,tq]
 refine tk4 59 (some 160) (Op.pick (Operand.tmp 156) (Operand.tmp 159) (Operand.const (Value.bool false))) 4 (none) ?_;try simp only [Act.put,tq]
 refine tk4 60 (some 161) (Op.move (Operand.tmp 160)) 4 (none) ?_;try simp only [Act.put,tq]
 refine tk4 61 (some 162) (Op.move (Operand.tmp 24)) 3 (some (60,true)) ?_;try simp only [Act.put,tq]
 refine tk4 62 (some 163) (Op.move (Operand.tmp 27)) 3 (some (60,true)) ?_;try simp only [Act.put,tq]
 refine tk4 63 (some 164) (Op.binOp BinOp.eql 3 (Operand.tmp 162) (Operand.tmp 163) 3) 4 (some (60,true)) ?_;try simp only [Act.put,tq]
 refine tk4 64 (some 165) (Op.pick (Operand.tmp 161) (Operand.tmp 164) (Operand.const (Value.bool false))) 4 (none) ?_;try simp only [Act.put,tq]
 refine tk4 65 (some 166) (Op.move (Operand.tmp 165)) 4 (none) ?_;try simp only [Act.put,tq]
 refine tk4 66 (some 167) (Op.load 38 (Operand.tmp 23)) 38 (some (65,true)) ?_;try simp only [Act.put,tq]
 refine tk4 67 (some 168) (Op.load 38 (Operand.tmp 26)) 38 (some (65,true)) ?_;try simp only [Act.put,tq]
 clear hHeld;refine ry2 68 (some 169) (Op.call { callee:=Callee.value (Operand.func 20),args:=#[Operand.tmp 167,Operand.tmp 168],argTypes:=#[38,38] }) 4 (some (65,true)) (fun K hK=>?_);go_simp;refine (sameBox_bz _ _ _ _ _ _ _ _ _ _ _ _ _ _ _ _ _ _ (K7.out.later BV.out).bz (K8.out.later BV.out).bz).mono ?_;rintro e v5 ⟨rfl,hb⟩;replace BV:=hid (btr BV.out hb);clear hb
 go_wp2_with fail
 refine hK.out _ _ (HC.out _ BV.out) (fun hHeld=>?_);clear hK K;try simp only [Act.put,tq]
 refine tk4 69 (some 170) (Op.pick (Operand.tmp 166) (Operand.tmp 169) (Operand.const (Value.bool false))) 4 (none) ?_;try simp only [Act.put,tq]
 refine tk4 70 (some 171) (Op.move (Operand.tmp 170)) 4 (none) ?_;try simp only [Act.put,tq]
 refine tk4 71 (some 172) (Op.load 27 (Operand.tmp 29)) 27 (some (70,true)) ?_;try simp only [Act.put,tq]
 refine tk4 72 (some 173) (Op.load 27 (Operand.tmp 30)) 27 (some (70,true)) ?_;try simp only [Act.put,tq]
 refine tk4 74 (some 175) (Op.load 27 (Operand.tmp 29)) 27 (some (70,true)) ?_;try simp only [Act.put,tq]
 refine tk4 75 (some 176) (Op.load 27 (Operand.tmp 30)) 27 (some (70,true)) ?_;try simp only [Act.put,tq]
 clear hHeld;refine ry2 73 (some 174) (Op.call { callee:=Callee.value (Operand.func 21),args:=#[Operand.tmp 172,Operand.tmp 173],argTypes:=#[27,27] }) 4 (some (70,true)) (fun K hK=>?_);go_simp;obtain ⟨lo1,hi1,t1⟩:=(K9.out.later BV.out).tz;obtain ⟨lo2,hi2,t2⟩:=(K0.out.later BV.out).tz;refine (implSameStore_any _ _ _ _ _ _ _ _ y9 tm9 ba9 _ bc9 ga9 _ gc9 S9 G9 y0 tm0 ba0 _ bc0 ga0 _ gc0 S0 G0 _ rfl t1.most t1.sb t1.boxes rfl t1.gmost t1.gone rfl t2.most t2.sb t2.boxes rfl t2.gmost t2.gone (HNB.out.on (btr BB.out BV.out))).mono ?_;rintro e v6 ⟨⟨r1,rfl,hr1⟩,hb⟩;clear t1 t2;have HR:=hid hr1;clear hr1;replace BV:=hid (btr BV.out hb);clear hb
 go_wp2_with fail
 refine hK.out _ _ (HC.out _ BV.out) (fun hHeld=>?_);clear hK K;try simp only [Act.put,tq]
 clear hHeld;refine ry2 76 (some 177) (Op.call { callee:=Callee.value (Operand.func 22),args:=#[Operand.tmp 175,Operand.tmp 176],argTypes:=#[27,27] }) 4 (some (70,true)) (fun K hK=>?_);go_simp;obtain ⟨lo1,hi1,t1⟩:=(K9.out.later BV.out).tz;obtain ⟨lo2,hi2,t2⟩:=(K0.out.later BV.out).tz;refine (specSameStore_any _ _ _ _ _ _ _ _ y9 tm9 ba9 _ bc9 ga9 _ gc9 S9 G9 y0 tm0 ba0 _ bc0 ga0 _ gc0 S0 G0 _ rfl t1.most t1.sb t1.boxes rfl t1.gmost t1.gone rfl t2.most t2.sb t2.boxes rfl t2.gmost t2.gone).mono ?_;rintro e v7 ⟨⟨r2,rfl,hr2⟩,hb⟩;clear t1 t2;have hrr:r2=r1:=Bool.eq_iff_iff.2 (hr2.trans HR.out.symm);subst hrr;clear hr2 HR;replace BV:=hid (btr BV.out hb);clear hb
 go_wp2_with fail
 refine hK.out _ _ (HC.out _ BV.out) (fun hHeld=>?_);clear hK K;try simp only [Act.put,tq]
 refine tk4 77 (some 178) (Op.binOp BinOp.eql 4 (Operand.tmp 174) (Operand.tmp 177) 4) 4 (some (70,true)) ?_;try simp only [Act.put,tq]
 refine tk4 78 (some 179) (Op.pick (Operand.tmp 171) (Operand.tmp 178) (Operand.const (Value.bool false))) 4 (none) ?_;try simp only [Act.put,tq]
 refine tk 79 ?_;refine dn ?_;clear hHeld
 go_wp2
 go_ret
 exact ⟨rfl,btr BB.out BV.out⟩
end Go.Proofs.YtdkedgedkgabnaaGreatDoor
