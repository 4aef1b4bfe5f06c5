/- Td2, Te0, Tkl. -/
import Derived.Test.YtdkedgedkgabnaaGreatDoorX38
namespace Go.Proofs.YtdkedgedkgabnaaGreatDoor
open Go.RowKit Go.ChangeMaps
set_option maxHeartbeats 16000000
set_option maxRecDepth 100000
def Same10 (w:World) (e:Ending) (w':World):Prop :=
 ∃ (y1 tm1:Int) (ba1:Option Addr) (bn1 bc1:Nat) (ga1:Option Addr) (gn1 gc1:Nat) (S1:List X7) (G1:List Int) (y2 tm2:Int) (ba2:Option Addr) (bn2 bc2:Nat) (ga2:Option Addr) (gn2 gc2:Nat) (S2:List X7) (G2:List Int),e=.returned (.tuple #[.agg #[.int .i64 y1,.int .i64 tm1,.slice ba1 bn1 bc1,.slice ga1 gn1 gc1],.agg #[.int .i64 y2,.int .i64 tm2,.slice ba2 bn2 bc2,.slice ga2 gn2 gc2]])∧Tz w' ba1 bn1 bc1 ga1 gn1 gc1 S1 G1∧Tz w' ba2 bn2 bc2 ga2 gn2 gc2 S2 G2∧Below w.heap.size w w'
theorem two_sts {w W:World} {hi1 hi2:Nat} {y1 tm1:Int} {ba1:Option Addr} {bn1 bc1:Nat} {ga1:Option Addr} {gn1 gc1:Nat} {S1:List X7} {G1:List Int} {y2 tm2:Int} {ba2:Option Addr} {bn2 bc2:Nat} {ga2:Option Addr} {gn2 gc2:Nat} {S2:List X7} {G2:List Int} (r0:Sx W w.heap.size 27 0 0 (.slice none 0 0) (.slice none 0 0)) (r1:Sx W (w.heap.size+1) 27 0 0 (.slice none 0 0) (.slice none 0 0)) (t1:Tg W (w.heap.size+1+1) hi1 ba1 bn1 bc1 ga1 gn1 gc1 S1 G1) (t2:Tg W (w.heap.size+1+1) hi2 ba2 bn2 bc2 ga2 gn2 gc2 S2 G2) (be:Below w.heap.size w W) :
  ∀ W1,W1=put4 W w.heap.size y1 tm1 (.slice ba1 bn1 bc1) (.slice ga1 gn1 gc1)→Sx W1 (w.heap.size+1) 27 0 0 (.slice none 0 0) (.slice none 0 0) ∧
   ∀ W2,W2=put4 W1 (w.heap.size+1) y2 tm2 (.slice ba2 bn2 bc2) (.slice ga2 gn2 gc2)→Sx W2 w.heap.size 27 y1 tm1 (.slice ba1 bn1 bc1) (.slice ga1 gn1 gc1)∧Sx W2 (w.heap.size+1) 27 y2 tm2 (.slice ba2 bn2 bc2) (.slice ga2 gn2 gc2)∧Tz W2 ba1 bn1 bc1 ga1 gn1 gc1 S1 G1∧Tz W2 ba2 bn2 bc2 ga2 gn2 gc2 S2 G2∧Below w.heap.size w W2:=by
 rintro W1 rfl;have g1:=put4_grown W w.heap.size y1 tm1 (.slice ba1 bn1 bc1) (.slice ga1 gn1 gc1);have a0:=r0.put4 y1 tm1 (.slice ba1 bn1 bc1) (.slice ga1 gn1 gc1);have a1:=r1.off g1 (by omega);have u1:=t1.far g1 (.inl (by omega));have u2:=t2.far g1 (.inl (by omega));have b1:=be.trans (below_of_grown g1 (Nat.le_refl _) be.size);refine ⟨a1,?_⟩;rintro W2 rfl;have g2:=put4_grown (put4 W w.heap.size y1 tm1 (.slice ba1 bn1 bc1) (.slice ga1 gn1 gc1)) (w.heap.size+1) y2 tm2 (.slice ba2 bn2 bc2) (.slice ga2 gn2 gc2);exact ⟨a0.off g2 (by omega),a1.put4 y2 tm2 (.slice ba2 bn2 bc2) (.slice ga2 gn2 gc2),(u1.far g2 (.inl (by omega))).tz,(u2.far g2 (.inl (by omega))).tz,b1.trans (below_of_grown g2 (Nat.le_succ _) b1.size)⟩
theorem drawSameStore_any (ao:Option Addr) (n cap:Nat) (w:World) (hn:n≤1048576) (hcode:Code w w.heap.size ao n) :
  Calls Tryz.prog 16 #[.slice ao n cap] w fun e w'=>Same10 w e w':=by
 have e0:(w.alloc (.cells #[.int .i64 0,.int .i64 0,.slice none 0 0,.slice none 0 0] 27)).heap.size=w.heap.size+1:=by simp
 have e1:((w.alloc (.cells #[.int .i64 0,.int .i64 0,.slice none 0 0,.slice none 0 0] 27)).alloc (.cells #[.int .i64 0,.int .i64 0,.slice none 0 0,.slice none 0 0] 27)).heap.size=w.heap.size+1+1:=by simp
 have R0:=hid ((Sx.new w 27 0 0 (.slice none 0 0) (.slice none 0 0)).later (bpush (bre _) (.cells #[.int .i64 0,.int .i64 0,.slice none 0 0,.slice none 0 0] 27)))
 have R1:Hid (Sx ((w.alloc (.cells #[.int .i64 0,.int .i64 0,.slice none 0 0,.slice none 0 0] 27)).alloc (.cells #[.int .i64 0,.int .i64 0,.slice none 0 0,.slice none 0 0] 27)) (w.heap.size+1) 27 0 0 (.slice none 0 0) (.slice none 0 0)):=by
  have:=Sx.new (w.alloc (.cells #[.int .i64 0,.int .i64 0,.slice none 0 0,.slice none 0 0] 27)) 27 0 0 (.slice none 0 0) (.slice none 0 0)
  rwa [e0] at this
 have N0:=hid (bpush (bpush (bre w) (.cells #[.int .i64 0,.int .i64 0,.slice none 0 0,.slice none 0 0] 27)) (.cells #[.int .i64 0,.int .i64 0,.slice none 0 0,.slice none 0 0] 27));have O0:=hid (hcode.over N0.out);have HS:=hid e1;clear hcode e0 e1
 go_enter Tryz.func16,Tryz.ntmps16
 go_wp2_with fail
 refine (new_any ao n cap _ hn O0.out).mono ?_;rintro e w2 ⟨rfl,hc,ho,hb⟩;rw [HS.out] at hc ho ⊢;have C2:=hid hc;have O2:=hid ho;have R02:=hid (R0.out.later hb);have R12:=hid (R1.out.later hb);have B2:=hid (btr N0.out hb);clear hc ho hb R0 R1 N0 O0 HS
 go_wp2_with fail
 refine (l07Any_any (w.heap.size+1+1) ao n cap _ hn C2.out O2.out).mono ?_;rintro e w3 ⟨hi1,y1,tm1,ba1,bn1,bc1,ga1,gn1,gc1,S1,G1,rfl,htm,ht,hc,hg⟩;have hlt:=C2.out.lt;have hlt3:=hc.lt;have P4:=bpush (bre w3) (.cells #[.int .i64 y1,.int .i64 tm1,.slice ba1 bn1 bc1,.slice ga1 gn1 gc1] 27);have C4:=hid (hc.alloc (.cells #[.int .i64 y1,.int .i64 tm1,.slice ba1 bn1 bc1,.slice ga1 gn1 gc1] 27));have O4:=hid ((O2.out.later hg).later (World.grownBy_alloc _ (.cells #[.int .i64 y1,.int .i64 tm1,.slice ba1 bn1 bc1,.slice ga1 gn1 gc1] 27) _));have R04:=hid ((R02.out.off hg (by omega)).later P4);have R14:=hid ((R12.out.off hg (by omega)).later P4);have B4:=hid (bpush (B2.out.trans (only_below hg (by omega) B2.out.size)) (.cells #[.int .i64 y1,.int .i64 tm1,.slice ba1 bn1 bc1,.slice ga1 gn1 gc1] 27));have X4:=hid (Sx.new w3 27 y1 tm1 (.slice ba1 bn1 bc1) (.slice ga1 gn1 gc1));have T4:=hid ((ht.wide (lo':=w.heap.size+1+1+1) (by omega) (Nat.le_refl _) ht.top).later P4);have L4:Hid (w.heap.size+1+1<w3.heap.size):=hlt3;have T0:=hid ht.top;clear htm ht hc hg hlt hlt3 P4 R02 R12 B2 C2 O2
 go_wp2_with fail
 obtain ⟨W5,hW5⟩:∃ W5,w3.alloc (.cells #[.int .i64 y1,.int .i64 tm1,.slice ba1 bn1 bc1,.slice ga1 gn1 gc1] 27)=W5:=⟨_,rfl⟩;obtain ⟨ka,hka⟩:∃ k,w3.heap.size=k:=⟨_,rfl⟩;rw [hW5] at C4 O4 R04 R14 B4 X4 T4;rw [hka] at X4 L4 T0
 try rw [hW5]
 try rw [hka]
 clear hW5 hka;refine (once_any (w.heap.size+1+1) ao n cap _ hn C4.out O4.out 2 (by decide) (by decide)).mono ?_;rintro e w6 ⟨t,rfl,hc,hg⟩;have hl4:=L4.out;have hx4:=X4.out.lt;have C6:=hid hc;have O6:=hid (O4.out.later hg);have R06:=hid (R04.out.off hg (by omega));have R16:=hid (R14.out.off hg (by omega));have B6:=hid (B4.out.trans (only_below hg (by omega) B4.out.size));have X6:=hid (X4.out.off hg (by omega));have T6:Hid (∃ hi,Tg w6 (w.heap.size+1+1+1) hi ba1 bn1 bc1 ga1 gn1 gc1 S1 G1):=⟨_,T4.out.far hg (.inl (by omega))⟩;clear hc hg C4 O4 R04 R14 B4 X4 T4 hx4
 cases t
 ·go_wp2_with fail
  have C7:=hid C6.out.drew;have O7:=hid (O6.out.later (gdr (wre _ _)));have R07:=hid (R06.out.later (bdr (bre _)));have R17:=hid (R16.out.later (bdr (bre _)));have B7:=hid (bdr B6.out);have X7:=hid (X6.out.later (bdr (bre _)))
  have T7:Hid (∃ hi,Tg w6.drew (w.heap.size+1+1+1) hi ba1 bn1 bc1 ga1 gn1 gc1 S1 G1):=by obtain ⟨hi,h⟩:=T6.out;exact ⟨hi,h.later (bdr (bre _))⟩
  clear C6 O6 R06 R16 B6 X6 T6;refine wp_region_noPanic ?_;refine wp_region_held_drew (S:=(fun W=>W.cell? ⟨ka,0,none⟩=some (.int .i64 y1)∧W.cell? ⟨ka,1,none⟩=some (.int .i64 tm1)∧W.cell? ⟨ka,2,none⟩=some (.slice ba1 bn1 bc1)∧W.cell? ⟨ka,3,none⟩=some (.slice ga1 gn1 gc1))) (by kernel_rfl) (X7.out.cells) (fun hHeld=>?_);refine tk 0 ?_;refine tk 1 ?_;clear hHeld;refine ry 2 (fun K hK=>?_);go_simp;refine (l07Any_any (w.heap.size+1+1) ao n cap _ hn C7.out O7.out).mono ?_;rintro e w8 ⟨hi2,y2,tm2,ba2,bn2,bc2,ga2,gn2,gc2,S2,G2,rfl,-,ht,hc,hg⟩;have hc7:=C7.out.lt;have R08:=hid (R07.out.off hg (by omega));have X8:=hid (X7.out.off hg (by omega));obtain ⟨hi,t1⟩:=T7.out;have TW:=hid (two_sts (y1:=y1) (tm1:=tm1) (y2:=y2) (tm2:=tm2) R08.out (R17.out.off hg (by omega)) ((t1.far hg (.inl (by omega))).wide (by omega) (Nat.le_refl _) (t1.far hg (.inl (by omega))).top) (ht.wide (by omega) (Nat.le_refl _) ht.top) (B7.out.trans (only_below hg (by omega) B7.out.size)));clear t1;clear ht hc hg hc7 C7 O7 R07 R17 B7 X7 T7
  go_wp2_with fail
  refine hK.out _ _ (X8.out.cells) (fun hHeld=>?_);clear hK K;try simp only [Act.put,tq]
  clear hHeld;refine ry 3 (fun K hK=>?_);have c0:=R08.out.cells;have f0:=R08.out.loose;go_simp;clear c0 f0;obtain ⟨z1,-⟩:=TW.out _ rfl;have R19:=hid z1;have X9:=hid (X8.out.off (put4_grown _ w.heap.size y1 tm1 (.slice ba1 bn1 bc1) (.slice ga1 gn1 gc1)) (by omega));clear z1;unfold put4 at R19 X9;refine hK.out _ _ (X9.out.cells) (fun hHeld=>?_);clear hK K;try simp only [Act.put,tq]
  clear hHeld;refine ry 4 (fun K hK=>?_);have c0:=R19.out.cells;have f0:=R19.out.loose;go_simp;clear c0 f0;obtain ⟨-,z2⟩:=TW.out _ rfl;obtain ⟨d1,d2,u1,u2,bb⟩:=z2 _ rfl;have d1:=d1.cells;have d2:=d2.cells;have XA:=hid (X9.out.off (put4_grown _ (w.heap.size+1) y2 tm2 (.slice ba2 bn2 bc2) (.slice ga2 gn2 gc2)) (by omega));unfold put4 at d1 d2 u1 u2 bb XA;clear z2;refine hK.out _ _ (XA.out.cells) (fun hHeld=>?_);clear hK K;try simp only [Act.put,tq]
  refine dn ?_
  go_wp2
  refine bodyPost_ret (v:=.tuple #[.agg #[.int .i64 y1,.int .i64 tm1,.slice ba1 bn1 bc1,.slice ga1 gn1 gc1],.agg #[.int .i64 y2,.int .i64 tm2,.slice ba2 bn2 bc2,.slice ga2 gn2 gc2]]) (by simp [results,Tryz.results16,go_sem,d1,d2]) rfl ⟨y1,tm1,ba1,bn1,bc1,ga1,gn1,gc1,S1,G1,y2,tm2,ba2,bn2,bc2,ga2,gn2,gc2,S2,G2,rfl,u1,u2,bb⟩
 go_wp2_with fail
 have C7:=hid C6.out.drew;have O7:=hid (O6.out.later (gdr (wre _ _)));have R07:=hid (R06.out.later (bdr (bre _)));have R17:=hid (R16.out.later (bdr (bre _)));have B7:=hid (bdr B6.out);have X7:=hid (X6.out.later (bdr (bre _)))
 have T7:Hid (∃ hi,Tg w6.drew (w.heap.size+1+1+1) hi ba1 bn1 bc1 ga1 gn1 gc1 S1 G1):=by obtain ⟨hi,h⟩:=T6.out;exact ⟨hi,h.later (bdr (bre _))⟩
 clear C6 O6 R06 R16 B6 X6 T6;refine wp_region_noPanic ?_;refine wp_region_held_drew (S:=(fun W=>W.cell? ⟨ka,0,none⟩=some (.int .i64 y1)∧W.cell? ⟨ka,1,none⟩=some (.int .i64 tm1)∧W.cell? ⟨ka,2,none⟩=some (.slice ba1 bn1 bc1)∧W.cell? ⟨ka,3,none⟩=some (.slice ga1 gn1 gc1))) (by kernel_rfl) (X7.out.cells) (fun hHeld=>?_);refine tk 0 ?_;refine tk 1 ?_;clear hHeld;refine ry 2 (fun K hK=>?_);go_simp;obtain ⟨hi,t1⟩:=T7.out;refine (l07Copy_any _ _ _ _ y1 tm1 ba1 bn1 bc1 ga1 gn1 gc1 S1 G1 _ t1.len t1.most t1.sb t1.boxes t1.glen t1.gmost t1.gone t1.g0).mono ?_;rintro e w8 ⟨bv,gv,rfl,ho,hb⟩;obtain ⟨ba2,bc2,ga2,gc2,rfl,rfl⟩:=ho.shape;have hc7:=X7.out.lt;have R08:=hid (R07.out.later hb);have X8:=hid (X7.out.later hb);have tt:=ho.tg (by have:=t1.len;have:=t1.most;omega) t1.sb (by have:=t1.glen;have:=t1.gmost;omega);have t2:=(t1.later hb);have TW:=hid (two_sts (y1:=y1) (tm1:=tm1) (y2:=y1) (tm2:=tm1) R08.out (R17.out.later hb) (t2.wide (by omega) (Nat.le_refl _) t2.top) (tt.wide (by omega) (Nat.le_refl _) tt.top) (btr B7.out hb));clear ho hb tt t1 t2 hc7 C7 O7 R07 R17 B7 X7 T7
 go_wp2_with fail
 refine hK.out _ _ (X8.out.cells) (fun hHeld=>?_);clear hK K;try simp only [Act.put,tq]
 clear hHeld;refine ry 3 (fun K hK=>?_);have c0:=R08.out.cells;have f0:=R08.out.loose;go_simp;clear c0 f0;obtain ⟨z1,-⟩:=TW.out _ rfl;have R19:=hid z1;have X9:=hid (X8.out.off (put4_grown _ w.heap.size y1 tm1 (.slice ba1 bn1 bc1) (.slice ga1 gn1 gc1)) (by omega));clear z1;unfold put4 at R19 X9;refine hK.out _ _ (X9.out.cells) (fun hHeld=>?_);clear hK K;try simp only [Act.put,tq]
 clear hHeld;refine ry 4 (fun K hK=>?_);have c0:=R19.out.cells;have f0:=R19.out.loose;go_simp;clear c0 f0;obtain ⟨-,z2⟩:=TW.out _ rfl;obtain ⟨d1,d2,u1,u2,bb⟩:=z2 _ rfl;have d1:=d1.cells;have d2:=d2.cells;have XA:=hid (X9.out.off (put4_grown _ (w.heap.size+1) y1 tm1 (.slice ba2 S1.length bc2) (.slice ga2 G1.length gc2)) (by omega));unfold put4 at d1 d2 u1 u2 bb XA;clear z2;refine hK.out _ _ (XA.out.cells) (fun hHeld=>?_);clear hK K;try simp only [Act.put,tq]
 refine dn ?_
 go_wp2
 refine bodyPost_ret (v:=.tuple #[.agg #[.int .i64 y1,.int .i64 tm1,.slice ba1 bn1 bc1,.slice ga1 gn1 gc1],.agg #[.int .i64 y1,.int .i64 tm1,.slice ba2 S1.length bc2,.slice ga2 G1.length gc2]]) (by simp [results,Tryz.results16,go_sem,d1,d2]) rfl ⟨y1,tm1,ba1,bn1,bc1,ga1,gn1,gc1,S1,G1,y1,tm1,ba2,S1.length,bc2,ga2,G1.length,gc2,S1,G1,rfl,u1,u2,bb⟩
def rbF (s:ByteArray) (a:Int):X7×Int×Bool:=match rbx s a with | none=>((0,⟨#[]⟩,0,0,0,[],[]),0,false) | some (x,c)=>(x,c,true)
def rsF (s:ByteArray):Int×Int×List X7×List Int×Bool:=match rst s with | none=>(0,0,[],[],false) | some (y,tm,S,G)=>(y,tm,S,G,true)
def RbF (g:Int) (nm:ByteArray) (t b nx:Int) (L:List M4) (G:List Int) (c:Int) (q:Bool) (w:World) (e:Ending) (w':World):Prop :=
 ∃ ma mc ga gc,e=.returned (.tuple #[.agg #[.int .i64 g,.string nm,.int .i64 t,.int .i64 b,.int .i64 nx,.slice ma L.length mc,.slice ga G.length gc],.int .i64 c,.bool q])∧Bz w' ma L.length mc ga G.length gc L G∧Below w.heap.size w w'
def RsF (y tm:Int) (S:List X7) (G:List Int) (q:Bool) (w:World) (e:Ending) (w':World):Prop :=
 ∃ ba bc ga gc,e=.returned (.tuple #[.agg #[.int .i64 y,.int .i64 tm,.slice ba S.length bc,.slice ga G.length gc],.bool q])∧Tz w' ba S.length bc ga G.length gc S G∧Below w.heap.size w w'
theorem bz_nil (W:World):Bz W none 0 0 none 0 0 [] [] :=
 ⟨rfl,Nat.zero_le _,(fun m hm=>by cases hm),⟨0,0,Nat.zero_le _,fun i hi=>absurd hi (Nat.not_lt_zero _)⟩,fun _=>rfl,rfl,Nat.zero_le _,⟨0,0,Nat.zero_le _,fun i hi=>absurd hi (Nat.not_lt_zero _)⟩,fun _=>rfl⟩
theorem tz_nil (W:World):Tz W none 0 0 none 0 0 [] [] :=
 ⟨0,0,rfl,Nat.zero_le _,(fun m hm=>by cases hm),⟨Nat.zero_le _,fun i hi=>absurd hi (Nat.not_lt_zero _)⟩,fun _=>rfl,rfl,Nat.zero_le _,⟨Nat.zero_le _,fun i hi=>absurd hi (Nat.not_lt_zero _)⟩,fun _=>rfl⟩
theorem bx_sm {g:Int} {nm:ByteArray} {t b nx:Int} {L:List M4} {G:List Int} (h:bxOk g nm t b nx L G=true):L.length≤1048576∧Sm L∧G.length≤1048576∧nm.size≤1048576:=by
 obtain ⟨-,p2,-,-,p5,p6,p7,-⟩:=bx_txt h;refine ⟨by omega,fun m hm=>?_,by omega,by omega⟩;obtain ⟨-,-,h3,-,h5⟩:=mlOk_in (p6 m hm);exact ⟨by omega,by omega⟩
theorem RbPost.f {s:ByteArray} {a:Int} {w w':World} {e:Ending} {g:Int} {nm:ByteArray} {t b nx:Int} {L:List M4} {G:List Int} {c:Int} {q:Bool} (hq:rbF s a=((g,nm,t,b,nx,L,G),c,q)) (h:RbPost s a w e w'):RbF g nm t b nx L G c q w e w':=by
 rcases h with ⟨h1,rfl,hb⟩ | ⟨g',nm',t',b',nx',L',G',c',mv,gv,h1,h2,rfl,ho,hb⟩
 ·unfold rbF at hq
  rw [h1] at hq;simp only [Prod.mk.injEq] at hq;obtain ⟨⟨rfl,rfl,rfl,rfl,rfl,rfl,rfl⟩,rfl,rfl⟩:=hq;exact ⟨none,0,none,0,rfl,bz_nil _,hb⟩
 unfold rbF at hq;rw [h1] at hq;simp only [Prod.mk.injEq] at hq;obtain ⟨⟨rfl,rfl,rfl,rfl,rfl,rfl,rfl⟩,rfl,rfl⟩:=hq;obtain ⟨k1,k2,k3,k4⟩:=bx_sm h2;obtain ⟨a,c,a',c',rfl,rfl,hz⟩:=own_bz ho k1 k2 k3;exact ⟨a,c,a',c',rfl,hz.bz,hb⟩
theorem RsPost.f {s:ByteArray} {w w':World} {e:Ending} {y tm:Int} {S:List X7} {G:List Int} {q:Bool} (hq:rsF s=(y,tm,S,G,q)) (h:RsPost s w e w'):RsF y tm S G q w e w':=by
 rcases h with ⟨h1,rfl,hb⟩ | ⟨y',tm',S',G',bv,gv,h1,h2,rfl,ho,hb⟩
 ·unfold rsF at hq
  rw [h1] at hq;simp only [Prod.mk.injEq] at hq;obtain ⟨rfl,rfl,rfl,rfl,rfl⟩:=hq;exact ⟨none,0,none,0,rfl,tz_nil _,hb⟩
 unfold rsF at hq;rw [h1] at hq;simp only [Prod.mk.injEq] at hq;obtain ⟨rfl,rfl,rfl,rfl,rfl⟩:=hq;obtain ⟨k1,k2,k3,-,-⟩:=sOk_sb h2;obtain ⟨a,c,a',c',rfl,rfl⟩:=ho.shape;exact ⟨a,c,a',c',rfl,(ho.tg (by omega) k2 (by omega)).tz,hb⟩
theorem rsF_size {s:ByteArray} {y tm:Int} {S:List X7} {G:List Int} {q:Bool} (hq:rsF s=(y,tm,S,G,q)):q=true→sOk y tm S G=true∧stx y tm S G++tail4 (stx y tm S G)=s:=by
 intro h;unfold rsF at hq
 cases h1:rst s with
 | none=>rw [h1] at hq;simp only [Prod.mk.injEq] at hq;obtain ⟨-,-,-,-,rfl⟩:=hq;cases h
 | some p =>
  rw [h1] at hq;obtain ⟨y',tm',S',G'⟩:=p;simp only [Prod.mk.injEq] at hq;obtain ⟨rfl,rfl,rfl,rfl,-⟩:=hq;exact rst_stood h1
theorem rsF_here {y tm:Int} {S:List X7} {G:List Int} (h:sOk y tm S G=true):rsF (stx y tm S G++tail4 (stx y tm S G))=(y,tm,S,G,true):=by
 unfold rsF;rw [rst_here h]
theorem rbF_here {g:Int} {nm:ByteArray} {t b nx:Int} {L:List M4} {G:List Int} (h:bxOk g nm t b nx L G=true):rbF ((⟨#[120]⟩:ByteArray)++btx g nm t b nx L G++(⟨#[121]⟩:ByteArray)) 1=((g,nm,t,b,nx,L,G),1+((btx g nm t b nx L G).size:Int),true):=by
 have hat:At ((⟨#[120]⟩:ByteArray)++btx g nm t b nx L G++(⟨#[121]⟩:ByteArray)) 1 (bl (btx g nm t b nx L G)):=by
  refine ⟨by omega,?_,bl ⟨#[121]⟩,?_⟩
  ·rw [ByteArray.size_append,ByteArray.size_append]
   have:(⟨#[120]⟩:ByteArray).size=1:=rfl
   omega
  rw [bl_app,bl_app,List.append_assoc]
  rfl
 unfold rbF;rw [rbx_here h hat]
section
variable {P:Program} {ops:Array Oper} {Q:Exit→Act→World→Prop} {md:Region.Mode} {S:World→Prop} {ps:String} {af:Array Edge} {v:Value} {fuel:Nat} {listed:Array Bool} {a:Act} {w:World}
theorem tk4 (i:Nat) (d:Option Tmp) (o:Op) (t:TypeId) (gd:Option (Nat×Bool)) (h:wpAnyH P md ops Q S fuel (listed.setIfInBounds i true) (a.put d v) w)
    (hi:ops[i]?=some ⟨d,o,t,ps,af,gd⟩:=by rfl) (hs:Region.noSelect ops=true:=by as_aux_lemma=>kernel_rfl) (hf:Region.free md ops listed i=true:=by as_aux_lemma=>kernel_rfl) (hr:(Region.ready md ops listed).contains i=true:=by as_aux_lemma=>kernel_rfl)
    (hw:Region.wanted ⟨d,o,t,ps,af,gd⟩ (yielded ops a.tmps)=true:=by rfl) (hy:∀ w,S w→(execOp a.eval ⟨d,o,t,ps,af,gd⟩).run P w=.ok (.value v) w:=by (intro w hSw;(try dsimp only at hSw);go_simp;try with_reducible rfl)) (hS:S w:=by assumption)
    (hQ:∀ c a w,Q (.panic c) (a.put d v) w→Q (.panic c) a w:=by exact fun _ _ _ h=>h):wpAnyH P md ops Q S (fuel+1) listed a w :=
  wpAnyH_take hi hs hf hr hQ (Or.inl ⟨hw,hy⟩) hS h
theorem tk5 (i:Nat) (d:Option Tmp) (o:Op) (t:TypeId) (gd:Option (Nat×Bool)) (hy:∀ w,S w→(execOp a.eval ⟨d,o,t,ps,af,gd⟩).run P w=.ok (.value v) w) (h:wpAnyH P md ops Q S fuel (listed.setIfInBounds i true) (a.put d v) w)
    (hi:ops[i]?=some ⟨d,o,t,ps,af,gd⟩:=by rfl) (hs:Region.noSelect ops=true:=by as_aux_lemma=>kernel_rfl) (hf:Region.free md ops listed i=true:=by as_aux_lemma=>kernel_rfl) (hr:(Region.ready md ops listed).contains i=true:=by as_aux_lemma=>kernel_rfl)
    (hw:Region.wanted ⟨d,o,t,ps,af,gd⟩ (yielded ops a.tmps)=true:=by rfl) (hS:S w:=by assumption)
    (hQ:∀ c a w,Q (.panic c) (a.put d v) w→Q (.panic c) a w:=by exact fun _ _ _ h=>h):wpAnyH P md ops Q S (fuel+1) listed a w :=
  wpAnyH_take hi hs hf hr hQ (Or.inl ⟨hw,hy⟩) hS h
theorem ry2 (i:Nat) (d:Option Tmp) (o:Op) (t:TypeId) (gd:Option (Nat×Bool))
    (h:∀ K':Act→World→Prop,Shut (∀ a w,S w→(S w→wpAnyH P md ops Q S fuel (listed.setIfInBounds i true) a w)→K' a w)→if Region.wanted ⟨d,o,t,ps,af,gd⟩ (yielded ops a.tmps)=true then Oper.wp P ⟨d,o,t,ps,af,gd⟩ a w K' Q else K' (a.put d undef) w)
    (hr:Region.ready md ops listed=[i]:=by as_aux_lemma=>kernel_rfl) (hi:ops[i]?=some ⟨d,o,t,ps,af,gd⟩:=by rfl):wpAnyH P md ops Q S (fuel+1) listed a w:=wpAnyH_ready hr (by simp) (AllReadyH.cons hi h AllReadyH.nil)
end
end Go.Proofs.YtdkedgedkgabnaaGreatDoor
