/- Usu. -/
import Derived.Test.YtdkedgedkgabnaaGreatDoorX28
namespace Go.Proofs.YtdkedgedkgabnaaGreatDoor
open Go.RowKit Go.ChangeMaps
set_option maxHeartbeats 16000000
set_option maxRecDepth 100000
theorem pickn_any (cb g k:Nat) (zs:List ByteArray) (ao:Option Addr) (n cap:Nat) (w:World) (hn:n≤1048576) (hcur:Cur w cb ao n cap) (hcode:Code w cb ao n) (hk:zs.length=k) (hk0:0<k) (hk2:k≤1000) (hg:g≠cb)
  (hcell:∀ i (h:i<zs.length),w.cell? ⟨g,i,none⟩=some (.string zs[i])) :
  Calls Tryz.prog 130 #[.pointer (some ⟨cb,0,none⟩),.slice (some ⟨g,0,none⟩) k k] w fun e w'=>∃ x:ByteArray,x∈zs∧e=.returned (.string x)∧Cur w' cb ao n cap∧w.grownBy w' (some cb):=by
 have HC:=hide hcur;have HO:=hide hcode;have HK:=hide hk;have HCELL:=hide hcell;clear hcur hcode hk hcell
 go_enter Tryz.func130,Tryz.ntmps130
 go_wp2_with fail
 refine (below4 cb ao n cap _ hn (unhide HC) (unhide HO) k (by omega) (by omega)).mono ?_;rintro e w1 ⟨x,hx,rfl,hc1,hb1⟩
 have hxl:x<zs.length:=by rw [unhide HK];omega
 obtain ⟨y,hy⟩:∃ y,zs[x]=y:=⟨_,rfl⟩;have hc:w1.cell? ⟨g,x,none⟩=some (.string y):=hb1.cell (by rw [← hy];exact unhide HCELL x hxl) (by simp;omega)
 have HY:Hid (y∈zs):=by show _∈_;rw [← hy];exact List.getElem_mem _
 have HC1:=hide hc1
 have hI:(0:Int)≤(x:Int)∧(x:Int)<(k:Int):=by omega
 clear hc1 hy
 go_wp2
 go_ret
 exact ⟨y,HY.out,rfl,unhide HC1,hb1⟩
theorem strs3 {W:World} {k e:Nat} {a b c:ByteArray} (h:W.heap[k]?=some (.cells #[.string a,.string b,.string c] e (0,0))):∀ i (h:i<[a,b,c].length),W.cell? ⟨k,i,none⟩=some (.string [a,b,c][i]):=by
 intro i hi
 have h2:i=0∨i=1∨i=2:=by simp at hi;omega
 rcases h2 with rfl | rfl | rfl
 ·exact cell_of_row _ _ 0 _ _ _ h
 ·exact cell_of_row _ _ 1 _ _ _ h
 exact cell_of_row _ _ 2 _ _ _ h
theorem strs4 {W:World} {k e:Nat} {a b c d:ByteArray} (h:W.heap[k]?=some (.cells #[.string a,.string b,.string c,.string d] e (0,0))):∀ i (h:i<[a,b,c,d].length),W.cell? ⟨k,i,none⟩=some (.string [a,b,c,d][i]):=by
 intro i hi
 have h2:i=0∨i=1∨i=2∨i=3:=by simp at hi;omega
 rcases h2 with rfl | rfl | rfl | rfl
 ·exact cell_of_row _ _ 0 _ _ _ h
 ·exact cell_of_row _ _ 1 _ _ _ h
 ·exact cell_of_row _ _ 2 _ _ _ h
 exact cell_of_row _ _ 3 _ _ _ h
structure U7 (w W:World) (cb:Nat) (ao:Option Addr) (n cap hi i:Nat) (y tm:Int) (ba:Option Addr) (bn bc:Nat) (ga:Option Addr) (gn gc:Nat) (S:List X7) (G:List Int):Prop where
 res:Sx W (w.heap.size+1) 27 0 0 (.slice none 0 0) (.slice none 0 0)
 box:Sx W w.heap.size 27 y tm (.slice ba bn bc) (.slice ga gn gc)
 tg:Tg W (w.heap.size+2) hi ba bn bc ga gn gc S G
 r7:R7 i y tm S G
 cur:Cur W cb ao n cap
 gr:w.grownBy W (some cb)
 lo:cb<w.heap.size
section
variable {w W W':World} {cb:Nat} {ao:Option Addr} {n cap hi i:Nat} {y tm:Int} {ba:Option Addr} {bn bc:Nat} {ga:Option Addr} {gn gc:Nat} {S:List X7} {G:List Int}
theorem U7.drew (h:U7 w W cb ao n cap hi i y tm ba bn bc ga gn gc S G):U7 w W.drew cb ao n cap hi i y tm ba bn bc ga gn gc S G:=⟨h.res,h.box,h.tg.later (bdr (bre _)),h.r7,h.cur,gdr h.gr,h.lo⟩
theorem U7.later (h:U7 w W cb ao n cap hi i y tm ba bn bc ga gn gc S G) (hb:Below W.heap.size W W'):U7 w W' cb ao n cap hi i y tm ba bn bc ga gn gc S G :=
 ⟨h.res.later hb,h.box.later hb,h.tg.later hb,h.r7,h.cur.later hb h.cur.lt,only_add h.gr (hb.mono h.gr.size),h.lo⟩
theorem U7.draw (h:U7 w W cb ao n cap hi i y tm ba bn bc ga gn gc S G) (hg:W.grownBy W' (some cb)) (hc:Cur W' cb ao n cap):U7 w W' cb ao n cap hi i y tm ba bn bc ga gn gc S G:=by
 have h2:=h.lo;exact ⟨h.res.off hg (by omega),h.box.off hg (by omega),h.tg.far hg (.inl (by omega)),h.r7,hc,only_trans h.gr hg,h.lo⟩
theorem U7.far {k:Nat} (h:U7 w W cb ao n cap hi i y tm ba bn bc ga gn gc S G) (hg:W.grownBy W' (some k)) (h1:w.heap.size+1<k) (h2:hi≤k):U7 w W' cb ao n cap hi i y tm ba bn bc ga gn gc S G:=by
 have h3:=h.lo;refine ⟨h.res.off hg (by omega),h.box.off hg (by omega),h.tg.far hg (.inr h2),h.r7,?_,?_,h.lo⟩
 ·obtain ⟨i,x,c1,c2⟩:=h.cur
  exact ⟨i,x,c1,(hg.block cb (Array.getElem?_eq_some_iff.1 c2).1 (fun e=>by simp only [Option.some.injEq] at e;omega)).trans c2⟩
 exact ⟨hg.os.trans h.gr.os,hg.tape.trans h.gr.tape,hg.output.trans h.gr.output,Nat.le_trans h.gr.size hg.size,fun j hj hne=>(hg.block j (Nat.lt_of_lt_of_le hj h.gr.size) (fun e=>by simp only [Option.some.injEq] at e;omega)).trans (h.gr.block j hj hne)⟩
theorem U7.put {j:Nat} {tnQ:Int} {a:Option Addr} {N c:Nat} {a':Option Addr} {M c':Nat} {K:List X7} {H:List Int} {wv:World} (h:U7 w W cb ao n cap hi i y tm ba bn bc ga gn gc S G) (hb:Below W.heap.size W wv) (ho:Tg wv W.heap.size wv.heap.size a N c a' M c' K H) (hr:R7 j y tnQ K H) :
  ∃ hj,U7 w ((((wv.setCell ⟨w.heap.size,0,none⟩ (.int .i64 y)).setCell ⟨w.heap.size,1,none⟩ (.int .i64 tnQ)).setCell ⟨w.heap.size,2,none⟩ (.slice a N c)).setCell ⟨w.heap.size,3,none⟩ (.slice a' M c')) cb ao n cap hj j y tnQ a N c a' M c' K H:=by
 have h2:=h.lo;have h3:=h.res.lt;have hl:=h.later hb;have hs:=hb.size;have hg:=put4_grown wv w.heap.size y tnQ (.slice a N c) (.slice a' M c');have hx:=hl.box.put4 y tnQ (.slice a N c) (.slice a' M c');unfold put4 at hg hx;refine ⟨wv.heap.size,hl.res.off hg (by omega),hx,(ho.wide (lo':=w.heap.size+2) (by omega) (Nat.le_refl _) (Nat.le_refl _)).far hg (.inl (by omega)),hr,?_,?_,h2⟩
 ·exact (((hl.cur.set (by omega)).set (by omega)).set (by omega)).set (by omega)
 exact gset (gset (gset (gset hl.gr (by omega) _ _) (by omega) _ _) (by omega) _ _) (by omega) _ _
theorem U7.next (h:U7 w W cb ao n cap hi i y tm ba bn bc ga gn gc S G):U7 w W cb ao n cap hi (i+1) y tm ba bn bc ga gn gc S G:=⟨h.res,h.box,h.tg,h.r7.mono (Nat.le_succ i),h.cur,h.gr,h.lo⟩
end
theorem Bx.off7 {W W':World} {k ty cb:Nat} {g:Int} {nm:ByteArray} {t b nx:Int} {ms gs:Value} (h:Bx W k ty g nm t b nx ms gs) (hg:W.grownBy W' (some cb)) (hk:k≠cb):Bx W' k ty g nm t b nx ms gs:=h.grown hg (fun e=>by simp only [Option.some.injEq] at e;omega)
structure Q7 (W:World) (cb kx:Nat) (g:Int) (ma:Option Addr) (mn mc:Nat) (L:List M4):Prop where
 box:∃ nm t b nx gv,Bx W kx 38 g nm t b nx (.slice ma mn mc) gv
 len:L.length=mn
 most:mn≤1048576
 mails:∃ lo hi,Ms lo hi W ma L∧(kx<lo∨hi≤kx)∧cb<lo
 ne:kx≠cb
def Ux (w W:World) (cb:Nat) (ao:Option Addr) (n cap i:Nat) (y:Int):Prop :=
 ∃ (hi:Nat) (tm:Int) (ba:Option Addr) (bn bc:Nat) (ga:Option Addr) (gn gc:Nat) (S:List X7) (G:List Int),U7 w W cb ao n cap hi i y tm ba bn bc ga gn gc S G
def Sto7 (cb:Nat) (ao:Option Addr) (n cap:Nat) (w:World) (e:Ending) (w':World):Prop :=
 ∃ (hi:Nat) (y tm:Int) (ba:Option Addr) (bn bc:Nat) (ga:Option Addr) (gn gc:Nat) (S:List X7) (G:List Int),e=.returned (.agg #[.int .i64 y,.int .i64 tm,.slice ba bn bc,.slice ga gn gc])∧R7 13 y tm S G∧Tg w' w.heap.size hi ba bn bc ga gn gc S G∧Cur w' cb ao n cap∧w.grownBy w' (some cb)
theorem nm_in3 {nm:ByteArray} (h:nm∈([⟨#[105,110,98,111,120]⟩,⟨#[119,111,114,107]⟩,⟨#[111,108,100]⟩]:List ByteArray)):nm∈nm5∧nm.size≤1048576:=by
 simp only [List.mem_cons,List.not_mem_nil,or_false] at h
 rcases h with rfl | rfl | rfl <;> exact ⟨by simp [nm5],by decide⟩
theorem nm_in4 {nm:ByteArray} (h:nm∈([⟨#[105,110,98,111,120]⟩,⟨#[119,111,114,107]⟩,⟨#[110,101,119]⟩,⟨#[111,116,104,101,114]⟩]:List ByteArray)):nm∈nm5∧nm.size≤1048576:=by
 simp only [List.mem_cons,List.not_mem_nil,or_false] at h
 rcases h with rfl | rfl | rfl | rfl <;> exact ⟨by simp [nm5],by decide⟩
theorem l07Use_any (cb:Nat) (ao:Option Addr) (n cap:Nat) (y:Int) (m:Nat) (w:World) (hn:n≤1048576) (hcur:Cur w cb ao n cap) (hcode:Code w cb ao n) (hy:1≤y∧y≤2) (hm:m≤13) :
  Calls Tryz.prog 116 #[.pointer (some ⟨cb,0,none⟩),.agg #[.int .i64 y,.int .i64 0,.slice none 0 0,.slice none 0 0],.int .i64 (m:Int),.int .i64 100] w fun e w'=>Sto7 cb ao n cap w e w':=by
 have hlt:=hcur.lt;have HO:=hid hcode
 have UX:Hid (Ux w ((w.alloc (.cells #[.int .i64 y,.int .i64 0,.slice none 0 0,.slice none 0 0] 27)).alloc (.cells #[.int .i64 0,.int .i64 0,.slice none 0 0,.slice none 0 0] 27)) cb ao n cap 0 y):=by
  refine ⟨_,0,none,0,0,none,0,0,[],[],?_,?_,Tg.nil _ _,R7.start hy.1 hy.2,(hcur.alloc _).alloc _,gal (World.grownBy_alloc w _ (some cb)) _,hlt⟩
  ·have h:=Sx.new (w.alloc (.cells #[.int .i64 y,.int .i64 0,.slice none 0 0,.slice none 0 0] 27)) 27 0 0 (.slice none 0 0) (.slice none 0 0)
   simpa using h
  exact (Sx.new w 27 y 0 (.slice none 0 0) (.slice none 0 0)).later (bpush (bre _) _)
 have HY:=hid hy;clear hcur hcode hy
 go_enter Tryz.func116,Tryz.ntmps116
 go_wp2_with fail
 go_loopg [9] m (fun g s9 wx=>∃ i:Nat,i≤m∧g=m - i∧s9=.int .i64 (i:Int)∧Ux w wx cb ao n cap i y)
 case atStart=>exact ⟨0,by omega,by omega,rfl,UX.out⟩
 case round =>
  obtain ⟨i,hi',hgk,rfl,hi,tm,ba,bn,bc,ga,gn,gc,S,G,hU⟩:=hrel;have U9:=hid hU;have HGK:=hid hgk;clear hU hgk UX
  by_cases him:i<m
  ·have him':(i:Int)<(m:Int):=by omega
   have q0:=U9.out.box.cells
   go_upto_if 22 with fail
   clear q0
   go_cut [10,11] from 14 to 125 (fun s s' wx=>∃ box gid:Int,s=.int .i64 box∧s'=.int .i64 gid∧U7 w wx cb ao n cap hi i y tm ba bn bc ga gn gc S G)
   case first =>
    rcases Nat.eq_zero_or_pos bn with hb0 | hb0
    ·have hbz:¬ (0:Int)<(bn:Int):=by omega
     clear hb0
     go_wp2_with fail
     go_meet
     exact ⟨_,_,rfl,rfl,U9.out⟩
    have hbz:(0:Int)<(bn:Int):=by omega
    have HBN:Hid (0<bn∧bn≤1048576):=⟨hb0,U9.out.tg.most⟩
    obtain ⟨kb,ob,hba⟩:∃ kb ob,ba=some ⟨kb,ob,none⟩:=by
     obtain ⟨k9,o9,_,_,_,_,e9,_⟩:=U9.out.tg.boxes.at (i:=0) (by rw [U9.out.tg.len];exact hb0);exact ⟨k9,o9,e9⟩
    subst hba;have U0:=hid U9.out.drew;clear hb0
    go_wp2_with fail
    go_cut [12] from 14 to 125 (fun s wx=>∃ (kx:Nat) (g:Int) (ma:Option Addr) (mn mc:Nat) (L:List M4),s=.pointer (some ⟨kx,0,none⟩)∧Q7 wx cb kx g ma mn mc L∧U7 w wx cb ao n cap hi i y tm (some ⟨kb,ob,none⟩) bn bc ga gn gc S G)
    case first =>
     refine wp_region_noPanic ?_;refine wp_region_held_drew (S:=(fun W=>W.cell? ⟨w.heap.size,2,none⟩=some (.slice (some ⟨kb,ob,none⟩) bn bc))) (by kernel_rfl) (U0.out.box.cells.2.2.1) (fun hHeld=>?_);refine tk 0 ?_;refine tk 1 ?_;refine tk 2 ?_;refine tk 3 ?_;refine tk 4 ?_;refine tk 5 ?_;clear hHeld;refine wpAnyH_ready (rs:=[6,9]) (by kernel_rfl) (by simp) ?_;refine rc (fun K hK=>?_) ?_
     ·go_simp
      refine (below4 cb ao n cap _ hn U0.out.cur (HO.out.later U0.out.gr) bn (by have:=HBN.out;omega) (by have:=HBN.out;omega)).mono ?_;rintro e w2 ⟨x,hx,rfl,hc2,hg2⟩;have U0Q:=hid (U0.out.draw hg2 hc2)
      have HX:Hid (x<S.length):=by show _<_;rw [U0.out.tg.len];omega
      have hxi:(0:Int)≤(x:Int)∧(x:Int)<(bn:Int):=by omega
      clear hc2 hg2 hx
      go_wp2_with fail
      refine hK.out _ _ (U0Q.out.box.cells.2.2.1) (fun hHeld=>?_);clear hK K;try simp only [Act.put,tq]
      refine tk 7 ?_;clear hHeld;refine wpAnyH_ready (rs:=[8,9]) (by kernel_rfl) (by simp) ?_;refine rc (fun K hK=>?_) ?_
      ·obtain ⟨k9,o9,ma,mc,ga9,gc9,e9,l9,c9,m9,g9,m0,_⟩:=U0Q.out.tg.boxes.at HX.out
       simp only [Option.some.injEq,Addr.mk.injEq] at e9;obtain ⟨rfl,rfl,_⟩:=e9;obtain ⟨⟨g,nm,t,b,nx,L,G9⟩,hz⟩:∃ z,S[x]'HX.out=z:=⟨_,rfl⟩;have hsz:=U0.out.tg.sb _ (List.getElem_mem HX.out);rw [hz] at c9 m9 hsz;dsimp only at c9 m9 hsz;obtain ⟨mn,hmn⟩:∃ mn,L.length=mn:=⟨_,rfl⟩;obtain ⟨gn9,hgv⟩:∃ v,G9.length=v:=⟨_,rfl⟩;rw [hmn] at c9 hsz;rw [hgv] at c9;have M9:=hid m9;have HMN:=hid hmn;have HSZ:=hid hsz.2.1;clear hmn hgv m9 g9 hz hsz;clear l9;have c9:=(show _∧_ from c9);go_simp;clear c9;refine hK.out _ _ (U0Q.out.box.cells.2.2.1) (fun hHeld=>?_);clear hK K;try simp only [Act.put,tq]
       clear hHeld;refine ry 9 (fun K hK=>?_);go_simp;have U0QA:=hid (U0Q.out.later (bpush (bre _) (.cells #[.int .i64 0,.string ⟨#[]⟩,.int .i64 0,.int .i64 0,.int .i64 0,.slice none 0 0,.slice none 0 0] 38)));have RA:Hid (Bx (w2.alloc (.cells #[.int .i64 0,.string ⟨#[]⟩,.int .i64 0,.int .i64 0,.int .i64 0,.slice none 0 0,.slice none 0 0] 38)) (w2.heap.size) 38 0 ⟨#[]⟩ 0 0 0 (.slice none 0 0) (.slice none 0 0)):=Bx.new w2 _ _ _ _ _ _ _ _
       have KA:Hid (w2.heap.size≠cb∧w.heap.size+1<w2.heap.size∧hi≤w2.heap.size):=by have h1:cb<w2.heap.size:=U0Q.out.cur.lt;have h2:w.heap.size+1<w2.heap.size:=U0Q.out.res.lt;have h3:hi≤w2.heap.size:=U0Q.out.tg.top;exact ⟨by omega,h2,h3⟩
       have fq:=RA.out.loose;refine hK.out _ _ (U0QA.out.box.cells.2.2.1) (fun hHeld=>?_);clear hK K;try simp only [Act.put,tq]
       clear hHeld;refine ry 10 (fun K hK=>?_);go_simp;have LB:Hid (Q7 (w2.alloc (.cells #[.int .i64 g,.string nm,.int .i64 t,.int .i64 b,.int .i64 nx,.slice ma mn mc,(.slice ga9 gn9 gc9)] 38)) cb w2.heap.size g ma mn mc L∧U7 w (w2.alloc (.cells #[.int .i64 g,.string nm,.int .i64 t,.int .i64 b,.int .i64 nx,.slice ma mn mc,(.slice ga9 gn9 gc9)] 38)) cb ao n cap hi i y tm (some ⟨kb,ob,none⟩) bn bc ga gn gc S G):=⟨⟨⟨nm,t,b,nx,(.slice ga9 gn9 gc9),Bx.new w2 _ _ _ _ _ _ _ _⟩,HMN.out,HSZ.out,⟨_,_,M9.out.later (bpush (bre _) _),.inr U0Q.out.tg.top,by have:=U0Q.out.lo;omega⟩,KA.out.1⟩,U0Q.out.later (bpush (bre _) _)⟩;refine hK.out _ _ (LB.out.2.box.cells.2.2.1) (fun hHeld=>?_);clear hK K;try simp only [Act.put,tq]
       refine dn ?_
       try go_wp2_with fail
       go_meet
       exact ⟨_,_,_,_,_,_,rfl,LB.out.1,LB.out.2⟩
      refine rl (fun K hK=>?_);go_simp;have U0QA:=hid (U0Q.out.later (bpush (bre _) (.cells #[.int .i64 0,.string ⟨#[]⟩,.int .i64 0,.int .i64 0,.int .i64 0,.slice none 0 0,.slice none 0 0] 38)));have RA:Hid (Bx (w2.alloc (.cells #[.int .i64 0,.string ⟨#[]⟩,.int .i64 0,.int .i64 0,.int .i64 0,.slice none 0 0,.slice none 0 0] 38)) (w2.heap.size) 38 0 ⟨#[]⟩ 0 0 0 (.slice none 0 0) (.slice none 0 0)):=Bx.new w2 _ _ _ _ _ _ _ _
      have KA:Hid (w2.heap.size≠cb∧w.heap.size+1<w2.heap.size∧hi≤w2.heap.size):=by have h1:cb<w2.heap.size:=U0Q.out.cur.lt;have h2:w.heap.size+1<w2.heap.size:=U0Q.out.res.lt;have h3:hi≤w2.heap.size:=U0Q.out.tg.top;exact ⟨by omega,h2,h3⟩
      have fq:=RA.out.loose;refine hK.out _ _ (U0QA.out.box.cells.2.2.1) (fun hHeld=>?_);clear hK K;try simp only [Act.put,tq]
      clear hHeld;refine ry 8 (fun K hK=>?_);obtain ⟨k9,o9,ma,mc,ga9,gc9,e9,l9,c9,m9,g9,m0,_⟩:=U0Q.out.tg.boxes.at HX.out;simp only [Option.some.injEq,Addr.mk.injEq] at e9;obtain ⟨rfl,rfl,_⟩:=e9;obtain ⟨⟨g,nm,t,b,nx,L,G9⟩,hz⟩:∃ z,S[x]'HX.out=z:=⟨_,rfl⟩;have hsz:=U0.out.tg.sb _ (List.getElem_mem HX.out);rw [hz] at c9 m9 hsz;dsimp only at c9 m9 hsz;obtain ⟨mn,hmn⟩:∃ mn,L.length=mn:=⟨_,rfl⟩;obtain ⟨gn9,hgv⟩:∃ v,G9.length=v:=⟨_,rfl⟩;rw [hmn] at c9 hsz;rw [hgv] at c9;have M9:=hid m9;have HMN:=hid hmn;have HSZ:=hid hsz.2.1;clear hmn hgv m9 g9 hz hsz;have c9:=C7.later c9 l9 (bpush (bre _) (.cells #[.int .i64 0,.string ⟨#[]⟩,.int .i64 0,.int .i64 0,.int .i64 0,.slice none 0 0,.slice none 0 0] 38));clear l9;have c9:=(show _∧_ from c9);go_simp;clear c9;refine hK.out _ _ (U0QA.out.box.cells.2.2.1) (fun hHeld=>?_);clear hK K;try simp only [Act.put,tq]
      clear hHeld;refine ry 10 (fun K hK=>?_);go_simp;have LB:Hid (Q7 (w2.alloc (.cells #[.int .i64 g,.string nm,.int .i64 t,.int .i64 b,.int .i64 nx,.slice ma mn mc,(.slice ga9 gn9 gc9)] 38)) cb w2.heap.size g ma mn mc L∧U7 w (w2.alloc (.cells #[.int .i64 g,.string nm,.int .i64 t,.int .i64 b,.int .i64 nx,.slice ma mn mc,(.slice ga9 gn9 gc9)] 38)) cb ao n cap hi i y tm (some ⟨kb,ob,none⟩) bn bc ga gn gc S G):=⟨⟨⟨nm,t,b,nx,(.slice ga9 gn9 gc9),Bx.new w2 _ _ _ _ _ _ _ _⟩,HMN.out,HSZ.out,⟨_,_,M9.out.later (bpush (bre _) _),.inr U0Q.out.tg.top,by have:=U0Q.out.lo;omega⟩,KA.out.1⟩,U0Q.out.later (bpush (bre _) _)⟩;refine hK.out _ _ (LB.out.2.box.cells.2.2.1) (fun hHeld=>?_);clear hK K;try simp only [Act.put,tq]
      refine dn ?_
      try go_wp2_with fail
      go_meet
      exact ⟨_,_,_,_,_,_,rfl,LB.out.1,LB.out.2⟩
     refine rl (fun K hK=>?_);go_simp;have U0A:=hid (U0.out.later (bpush (bre _) (.cells #[.int .i64 0,.string ⟨#[]⟩,.int .i64 0,.int .i64 0,.int .i64 0,.slice none 0 0,.slice none 0 0] 38)));have RA:Hid (Bx (wr.drew.alloc (.cells #[.int .i64 0,.string ⟨#[]⟩,.int .i64 0,.int .i64 0,.int .i64 0,.slice none 0 0,.slice none 0 0] 38)) (wr.heap.size) 38 0 ⟨#[]⟩ 0 0 0 (.slice none 0 0) (.slice none 0 0)):=Bx.new wr.drew _ _ _ _ _ _ _ _
     have KA:Hid (wr.heap.size≠cb∧w.heap.size+1<wr.heap.size∧hi≤wr.heap.size):=by have h1:cb<wr.heap.size:=U0.out.cur.lt;have h2:w.heap.size+1<wr.heap.size:=U0.out.res.lt;have h3:hi≤wr.heap.size:=U0.out.tg.top;exact ⟨by omega,h2,h3⟩
     refine hK.out _ _ (U0A.out.box.cells.2.2.1) (fun hHeld=>?_);clear hK K;try simp only [Act.put,tq]
     clear hHeld;refine ry 6 (fun K hK=>?_);go_simp;refine (below4 cb ao n cap _ hn U0A.out.cur (HO.out.later U0A.out.gr) bn (by have:=HBN.out;omega) (by have:=HBN.out;omega)).mono ?_;rintro e w2 ⟨x,hx,rfl,hc2,hg2⟩;have U0AQ:=hid (U0A.out.draw hg2 hc2)
     have HX:Hid (x<S.length):=by show _<_;rw [U0.out.tg.len];omega
     have RQ:=hid (Bx.off7 RA.out hg2 KA.out.1);have fq:=RQ.out.loose;have cq:=RQ.out.cells
     have hxi:(0:Int)≤(x:Int)∧(x:Int)<(bn:Int):=by omega
     clear hc2 hg2 hx
     go_wp2_with fail
     refine hK.out _ _ (U0AQ.out.box.cells.2.2.1) (fun hHeld=>?_);clear hK K;try simp only [Act.put,tq]
     refine tk 7 ?_;clear hHeld;refine ry 8 (fun K hK=>?_);obtain ⟨k9,o9,ma,mc,ga9,gc9,e9,l9,c9,m9,g9,m0,_⟩:=U0AQ.out.tg.boxes.at HX.out;simp only [Option.some.injEq,Addr.mk.injEq] at e9;obtain ⟨rfl,rfl,_⟩:=e9;obtain ⟨⟨g,nm,t,b,nx,L,G9⟩,hz⟩:∃ z,S[x]'HX.out=z:=⟨_,rfl⟩;have hsz:=U0.out.tg.sb _ (List.getElem_mem HX.out);rw [hz] at c9 m9 hsz;dsimp only at c9 m9 hsz;obtain ⟨mn,hmn⟩:∃ mn,L.length=mn:=⟨_,rfl⟩;obtain ⟨gn9,hgv⟩:∃ v,G9.length=v:=⟨_,rfl⟩;rw [hmn] at c9 hsz;rw [hgv] at c9;have M9:=hid m9;have HMN:=hid hmn;have HSZ:=hid hsz.2.1;clear hmn hgv m9 g9 hz hsz;clear l9;have c9:=(show _∧_ from c9);go_simp;clear c9;refine hK.out _ _ (U0AQ.out.box.cells.2.2.1) (fun hHeld=>?_);clear hK K;try simp only [Act.put,tq]
     clear hHeld;refine ry 10 (fun K hK=>?_);go_simp;have hx7:=RQ.out.set7 g nm t b nx (.slice ma mn mc) (.slice ga9 gn9 gc9);have hg7:=set7_grown w2 (wr.heap.size) g nm t b nx (.slice ma mn mc) (.slice ga9 gn9 gc9);unfold set7 at hx7 hg7;have LB:=hid (And.intro (show Q7 _ cb (wr.heap.size) g ma mn mc L from ⟨⟨nm,t,b,nx,(.slice ga9 gn9 gc9),hx7⟩,HMN.out,HSZ.out,⟨_,_,M9.out.same (Nat.le_trans M9.out.1 hg7.size) (fun j h1 h2=>hg7.block j (Nat.lt_of_lt_of_le h2 M9.out.1) (fun e=>by simp only [Option.some.injEq] at e;have:=KA.out.2.2;omega)),.inr KA.out.2.2,by have:=U0AQ.out.lo;omega⟩,KA.out.1⟩) (U0AQ.out.far hg7 KA.out.2.1 KA.out.2.2));clear hx7 hg7;refine hK.out _ _ (LB.out.2.box.cells.2.2.1) (fun hHeld=>?_);clear hK K;try simp only [Act.put,tq]
     refine dn ?_
     try go_wp2_with fail
     go_meet
     exact ⟨_,_,_,_,_,_,rfl,LB.out.1,LB.out.2⟩
    case rest =>
     obtain ⟨kx,g,ma,mn,mc,L,rfl,hQ,hU⟩:=hcut;have HQ:=hid hQ;have U1s:=hid hU;clear hQ hU U0;obtain ⟨nm,t,b,nx,gv,hbx⟩:=HQ.out.box;have c1:=hbx.cells;clear hbx
     rcases Nat.eq_zero_or_pos mn with hm0 | hm0
     ·have hmz:¬ (0:Int)<(mn:Int):=by omega
      clear hm0
      go_wp2_with fail
      go_meet
      exact ⟨_,_,rfl,rfl,U1s.out⟩
     have hmz:(0:Int)<(mn:Int):=by omega
     have HMP:=hid hm0
     obtain ⟨km,om,hma⟩:∃ km om,ma=some ⟨km,om,none⟩:=by
      obtain ⟨lo,hj,hms,_⟩:=HQ.out.mails;obtain ⟨k9,o9,_,_,e9,_⟩:=hms.2 0 (by rw [HQ.out.len];exact hm0);exact ⟨k9,o9,e9⟩
     subst hma;clear hm0
     go_wp2_with fail
     have U1:=hid U1s.out.drew;have HB3:Hid (wc.drew.cell? ⟨kx,5,none⟩=some (.slice (some ⟨km,om,none⟩) mn mc)):=c1.2.2.2.2.2.1;refine wp_region_noPanic ?_;refine wp_region_held_drew (S:=(fun W=>W.cell? ⟨kx,5,none⟩=some (.slice (some ⟨km,om,none⟩) mn mc))) (by kernel_rfl) (HB3.out) (fun hHeld=>?_);refine tk 0 ?_;refine tk 1 ?_;refine tk 2 ?_;refine tk 3 ?_;refine tk 4 ?_;refine tk 5 ?_;clear hHeld;refine ry 6 (fun K hK=>?_);go_simp;refine (below4 cb ao n cap _ hn U1.out.cur (HO.out.later U1.out.gr) mn (by have:=HMP.out;omega) (by have:=HQ.out.most;omega)).mono ?_;rintro e w4 ⟨x,hx,rfl,hc4,hg4⟩;have U2:=hid (U1.out.draw hg4 hc4)
     have HX:Hid (x<L.length):=by show _<_;rw [HQ.out.len];omega
     have hxi:(0:Int)≤(x:Int)∧(x:Int)<(mn:Int):=by omega
     have HB4:Hid (w4.cell? ⟨kx,5,none⟩=some (.slice (some ⟨km,om,none⟩) mn mc)):=by obtain ⟨nm,t,b,nx,gv,hbx⟩:=HQ.out.box;exact (Bx.off7 (show Bx wc.drew _ _ _ _ _ _ _ _ _ from hbx) hg4 HQ.out.ne).cells.2.2.2.2.2.1
     have HM4:Hid (∃ lo hi,Ms lo hi w4 (some ⟨km,om,none⟩) L):=by obtain ⟨lo,hj,hms,_,hlo⟩:=HQ.out.mails;exact ⟨lo,hj,hms.same (Nat.le_trans hms.1 hg4.size) (fun j h1 h2=>hg4.block j (Nat.lt_of_lt_of_le h2 hms.1) (fun e=>by simp only [Option.some.injEq] at e;omega))⟩
     clear hc4 hg4 hx
     go_wp2_with fail
     refine hK.out _ _ (HB4.out) (fun hHeld=>?_);clear hK K;try simp only [Act.put,tq]
     refine tk 7 ?_;refine tk 8 ?_;clear hHeld;refine ry 9 (fun K hK=>?_);obtain ⟨lo,hj,hms⟩:=HM4.out;obtain ⟨k9,o9,fa,fc,e9,_,_,c9,_⟩:=hms.2 x HX.out;simp only [Option.some.injEq,Addr.mk.injEq] at e9;obtain ⟨rfl,rfl,_⟩:=e9;obtain ⟨z,hz⟩:∃ z,(L[x]'HX.out).1=z:=⟨_,rfl⟩;have c9:=c9.1;rw [hz] at c9;clear hms hz;go_simp;clear c9;refine hK.out _ _ (HB4.out) (fun hHeld=>?_);clear hK K;try simp only [Act.put,tq]
     refine tk 10 ?_;refine dn ?_
     try go_wp2_with fail
     go_meet
     exact ⟨_,_,rfl,rfl,U2.out⟩
   case rest =>
    obtain ⟨box,gid,rfl,rfl,hU⟩:=hcut;have U4:=hid hU;clear hU U9
    have hib:(i:Int)<13:=by omega
    have HWR:Hid (IntKind.i64.wrap (100+(i:Int))=100+(i:Int)):=by show _=_;rw [IntKind.wrap_i64];omega
    go_wp2_with fail
    refine (below4 cb ao n cap _ hn U4.out.cur (HO.out.later U4.out.gr) 12 (by decide) (by decide)).mono ?_;rintro e w5 ⟨k,hk,rfl,hc,hg⟩;have U5:=hid (U4.out.draw hg hc);have T5:Hid (U7 w w5.drew cb ao n cap hi i y tm ba bn bc ga gn gc S G):=U5.out.drew;clear hc hg U4
    by_cases hb0:box=0
    ·subst hb0
     clear hk
     go_wp2_with fail
     refine wp_region_noPanic ?_;refine wp_region_held_drew (S:=(fun _=>True)) (by kernel_rfl) (trivial) (fun hHeld=>?_);refine tk 1 ?_;refine tk 2 ?_;refine tk 3 ?_;refine tk 4 ?_;clear hHeld;refine wpAnyH_ready (rs:=[0,5]) (by kernel_rfl) (by simp) ?_;refine rc (fun K hK=>?_) ?_
     ·have q0:=T5.out.box.cells
      go_simp;clear q0;refine hK.out _ _ (trivial) (fun hHeld=>?_);clear hK K;try simp only [Act.put,tq]
      clear hHeld;refine ry 5 (fun K hK=>?_);go_simp;have T6:Hid (U7 w (w5.alloc (.cells #[.string ⟨#[105,110,98,111,120]⟩,.string ⟨#[119,111,114,107]⟩,.string ⟨#[111,108,100]⟩] 9)).drew cb ao n cap hi i y tm ba bn bc ga gn gc S G):=(U5.out.later (bpush (bre _) (.cells #[.string ⟨#[105,110,98,111,120]⟩,.string ⟨#[119,111,114,107]⟩,.string ⟨#[111,108,100]⟩] 9))).drew;have TB:Hid ((w5.alloc (.cells #[.string ⟨#[105,110,98,111,120]⟩,.string ⟨#[119,111,114,107]⟩,.string ⟨#[111,108,100]⟩] 9)).drew.heap[w5.heap.size]?=some (.cells #[.string ⟨#[105,110,98,111,120]⟩,.string ⟨#[119,111,114,107]⟩,.string ⟨#[111,108,100]⟩] 9 (0,0))):=heap_alloc_new w5 _
      have TL:Hid (w5.heap.size≠cb):=by have h1:cb<w5.heap.size:=T5.out.cur.lt;show _≠_;omega
      refine hK.out _ _ (trivial) (fun hHeld=>?_);clear hK K;try simp only [Act.put,tq]
      clear hHeld;refine ry 6 (fun K hK=>?_);go_simp;refine (pickn_any cb _ 3 [⟨#[105,110,98,111,120]⟩,⟨#[119,111,114,107]⟩,⟨#[111,108,100]⟩] ao n cap _ hn T6.out.cur (HO.out.later T6.out.gr) rfl (by decide) (by decide) TL.out (strs3 TB.out)).mono ?_;rintro e w7 ⟨nm,hnm,rfl,hc7,hg7⟩;have T7:=hid (T6.out.draw hg7 hc7);have HNM:=hid (nm_in3 hnm);clear hc7 hg7 hnm
      go_wp2_with fail
      refine hK.out _ _ (trivial) (fun hHeld=>?_);clear hK K;try simp only [Act.put,tq]
      clear hHeld;refine ry 7 (fun K hK=>?_);go_simp
      try rw [HWR.out]
      obtain ⟨p,tnQ,KS,HS,N,M,hE,hZ,hcall⟩:=make_s (100+(i:Int)) nm T7.out.tg.len T7.out.tg.most T7.out.tg.sb T7.out.tg.glen T7.out.tg.gmost HNM.out.2;refine (hcall.out _ _ ba bc ga gc _ T7.out.tg).mono ?_;rintro e w8 ⟨a,c,a',c',rfl,ho8,hb8⟩;have T8:=hid (T7.out.later hb8);have f8:=T8.out.box.loose;have c8:=T8.out.box.cells;have NEW:=hid (T7.out.put (j:=i+1) (tnQ:=tnQ) (K:=KS) (H:=HS) hb8 ho8 (by obtain ⟨hp,rfl,rfl,rfl⟩:=hE.out;exact U5.out.r7.make HNM.out.1 hp));clear ho8 hb8 hZ hcall hE
      go_wp2_with fail
      refine hK.out _ _ (trivial) (fun hHeld=>?_);clear hK K;try simp only [Act.put,tq]
      refine tk 8 ?_;refine tk 9 ?_;refine tk 10 ?_;clear hHeld;refine ry 11 (fun K hK=>?_);go_simp;refine hK.out _ _ (trivial) (fun hHeld=>?_);clear hK K;try simp only [Act.put,tq]
      refine dn ?_
      go_wp2
      obtain ⟨hj,hN⟩:=NEW.out
      go_roundg (m - (i+1))
      case measure=>have:=HGK.out;omega
      case rel=>exact ⟨i+1,by omega,rfl,by go_num,_,_,_,_,_,_,_,_,_,_,hN⟩
     refine rl (fun K hK=>?_);go_simp;have T6:Hid (U7 w (w5.alloc (.cells #[.string ⟨#[105,110,98,111,120]⟩,.string ⟨#[119,111,114,107]⟩,.string ⟨#[111,108,100]⟩] 9)).drew cb ao n cap hi i y tm ba bn bc ga gn gc S G):=(U5.out.later (bpush (bre _) (.cells #[.string ⟨#[105,110,98,111,120]⟩,.string ⟨#[119,111,114,107]⟩,.string ⟨#[111,108,100]⟩] 9))).drew;have TB:Hid ((w5.alloc (.cells #[.string ⟨#[105,110,98,111,120]⟩,.string ⟨#[119,111,114,107]⟩,.string ⟨#[111,108,100]⟩] 9)).drew.heap[w5.heap.size]?=some (.cells #[.string ⟨#[105,110,98,111,120]⟩,.string ⟨#[119,111,114,107]⟩,.string ⟨#[111,108,100]⟩] 9 (0,0))):=heap_alloc_new w5 _
     have TL:Hid (w5.heap.size≠cb):=by have h1:cb<w5.heap.size:=T5.out.cur.lt;show _≠_;omega
     refine hK.out _ _ (trivial) (fun hHeld=>?_);clear hK K;try simp only [Act.put,tq]
     clear hHeld;refine wpAnyH_ready (rs:=[0,6]) (by kernel_rfl) (by simp) ?_;refine rc (fun K hK=>?_) ?_
     ·have q0:=T6.out.box.cells
      go_simp;clear q0;refine hK.out _ _ (trivial) (fun hHeld=>?_);clear hK K;try simp only [Act.put,tq]
      clear hHeld;refine ry 6 (fun K hK=>?_);go_simp;refine (pickn_any cb _ 3 [⟨#[105,110,98,111,120]⟩,⟨#[119,111,114,107]⟩,⟨#[111,108,100]⟩] ao n cap _ hn T6.out.cur (HO.out.later T6.out.gr) rfl (by decide) (by decide) TL.out (strs3 TB.out)).mono ?_;rintro e w7 ⟨nm,hnm,rfl,hc7,hg7⟩;have T7:=hid (T6.out.draw hg7 hc7);have HNM:=hid (nm_in3 hnm);clear hc7 hg7 hnm
      go_wp2_with fail
      refine hK.out _ _ (trivial) (fun hHeld=>?_);clear hK K;try simp only [Act.put,tq]
      clear hHeld;refine ry 7 (fun K hK=>?_);go_simp
      try rw [HWR.out]
      obtain ⟨p,tnQ,KS,HS,N,M,hE,hZ,hcall⟩:=make_s (100+(i:Int)) nm T7.out.tg.len T7.out.tg.most T7.out.tg.sb T7.out.tg.glen T7.out.tg.gmost HNM.out.2;refine (hcall.out _ _ ba bc ga gc _ T7.out.tg).mono ?_;rintro e w8 ⟨a,c,a',c',rfl,ho8,hb8⟩;have T8:=hid (T7.out.later hb8);have f8:=T8.out.box.loose;have c8:=T8.out.box.cells;have NEW:=hid (T7.out.put (j:=i+1) (tnQ:=tnQ) (K:=KS) (H:=HS) hb8 ho8 (by obtain ⟨hp,rfl,rfl,rfl⟩:=hE.out;exact U5.out.r7.make HNM.out.1 hp));clear ho8 hb8 hZ hcall hE
      go_wp2_with fail
      refine hK.out _ _ (trivial) (fun hHeld=>?_);clear hK K;try simp only [Act.put,tq]
      refine tk 8 ?_;refine tk 9 ?_;refine tk 10 ?_;clear hHeld;refine ry 11 (fun K hK=>?_);go_simp;refine hK.out _ _ (trivial) (fun hHeld=>?_);clear hK K;try simp only [Act.put,tq]
      refine dn ?_
      go_wp2
      obtain ⟨hj,hN⟩:=NEW.out
      go_roundg (m - (i+1))
      case measure=>have:=HGK.out;omega
      case rel=>exact ⟨i+1,by omega,rfl,by go_num,_,_,_,_,_,_,_,_,_,_,hN⟩
     refine rl (fun K hK=>?_);go_simp;refine (pickn_any cb _ 3 [⟨#[105,110,98,111,120]⟩,⟨#[119,111,114,107]⟩,⟨#[111,108,100]⟩] ao n cap _ hn T6.out.cur (HO.out.later T6.out.gr) rfl (by decide) (by decide) TL.out (strs3 TB.out)).mono ?_;rintro e w7 ⟨nm,hnm,rfl,hc7,hg7⟩;have T7:=hid (T6.out.draw hg7 hc7);have HNM:=hid (nm_in3 hnm);clear hc7 hg7 hnm
     go_wp2_with fail
     refine hK.out _ _ (trivial) (fun hHeld=>?_);clear hK K;try simp only [Act.put,tq]
     clear hHeld;refine ry 0 (fun K hK=>?_);have q0:=T7.out.box.cells;go_simp;clear q0;refine hK.out _ _ (trivial) (fun hHeld=>?_);clear hK K;try simp only [Act.put,tq]
     clear hHeld;refine ry 7 (fun K hK=>?_);go_simp
     try rw [HWR.out]
     obtain ⟨p,tnQ,KS,HS,N,M,hE,hZ,hcall⟩:=make_s (100+(i:Int)) nm T7.out.tg.len T7.out.tg.most T7.out.tg.sb T7.out.tg.glen T7.out.tg.gmost HNM.out.2;refine (hcall.out _ _ ba bc ga gc _ T7.out.tg).mono ?_;rintro e w8 ⟨a,c,a',c',rfl,ho8,hb8⟩;have T8:=hid (T7.out.later hb8);have f8:=T8.out.box.loose;have c8:=T8.out.box.cells;have NEW:=hid (T7.out.put (j:=i+1) (tnQ:=tnQ) (K:=KS) (H:=HS) hb8 ho8 (by obtain ⟨hp,rfl,rfl,rfl⟩:=hE.out;exact U5.out.r7.make HNM.out.1 hp));clear ho8 hb8 hZ hcall hE
     go_wp2_with fail
     refine hK.out _ _ (trivial) (fun hHeld=>?_);clear hK K;try simp only [Act.put,tq]
     refine tk 8 ?_;refine tk 9 ?_;refine tk 10 ?_;clear hHeld;refine ry 11 (fun K hK=>?_);go_simp;refine hK.out _ _ (trivial) (fun hHeld=>?_);clear hK K;try simp only [Act.put,tq]
     refine dn ?_
     go_wp2
     obtain ⟨hj,hN⟩:=NEW.out
     go_roundg (m - (i+1))
     case measure=>have:=HGK.out;omega
     case rel=>exact ⟨i+1,by omega,rfl,by go_num,_,_,_,_,_,_,_,_,_,_,hN⟩
    have hb1:(box == 0)=false:=beq_eq_false_iff_ne.2 hb0
    by_cases hk0:k=0
    ·subst hk0
     clear hk
     go_wp2_with fail
     refine wp_region_noPanic ?_;refine wp_region_held_drew (S:=(fun _=>True)) (by kernel_rfl) (trivial) (fun hHeld=>?_);refine tk 1 ?_;refine tk 2 ?_;refine tk 3 ?_;refine tk 4 ?_;clear hHeld;refine wpAnyH_ready (rs:=[0,5]) (by kernel_rfl) (by simp) ?_;refine rc (fun K hK=>?_) ?_
     ·have q0:=T5.out.box.cells
      go_simp;clear q0;refine hK.out _ _ (trivial) (fun hHeld=>?_);clear hK K;try simp only [Act.put,tq]
      clear hHeld;refine ry 5 (fun K hK=>?_);go_simp;have T6:Hid (U7 w (w5.alloc (.cells #[.string ⟨#[105,110,98,111,120]⟩,.string ⟨#[119,111,114,107]⟩,.string ⟨#[111,108,100]⟩] 9)).drew cb ao n cap hi i y tm ba bn bc ga gn gc S G):=(U5.out.later (bpush (bre _) (.cells #[.string ⟨#[105,110,98,111,120]⟩,.string ⟨#[119,111,114,107]⟩,.string ⟨#[111,108,100]⟩] 9))).drew;have TB:Hid ((w5.alloc (.cells #[.string ⟨#[105,110,98,111,120]⟩,.string ⟨#[119,111,114,107]⟩,.string ⟨#[111,108,100]⟩] 9)).drew.heap[w5.heap.size]?=some (.cells #[.string ⟨#[105,110,98,111,120]⟩,.string ⟨#[119,111,114,107]⟩,.string ⟨#[111,108,100]⟩] 9 (0,0))):=heap_alloc_new w5 _
      have TL:Hid (w5.heap.size≠cb):=by have h1:cb<w5.heap.size:=T5.out.cur.lt;show _≠_;omega
      refine hK.out _ _ (trivial) (fun hHeld=>?_);clear hK K;try simp only [Act.put,tq]
      clear hHeld;refine ry 6 (fun K hK=>?_);go_simp;refine (pickn_any cb _ 3 [⟨#[105,110,98,111,120]⟩,⟨#[119,111,114,107]⟩,⟨#[111,108,100]⟩] ao n cap _ hn T6.out.cur (HO.out.later T6.out.gr) rfl (by decide) (by decide) TL.out (strs3 TB.out)).mono ?_;rintro e w7 ⟨nm,hnm,rfl,hc7,hg7⟩;have T7:=hid (T6.out.draw hg7 hc7);have HNM:=hid (nm_in3 hnm);clear hc7 hg7 hnm
      go_wp2_with fail
      refine hK.out _ _ (trivial) (fun hHeld=>?_);clear hK K;try simp only [Act.put,tq]
      clear hHeld;refine ry 7 (fun K hK=>?_);go_simp
      try rw [HWR.out]
      obtain ⟨p,tnQ,KS,HS,N,M,hE,hZ,hcall⟩:=make_s (100+(i:Int)) nm T7.out.tg.len T7.out.tg.most T7.out.tg.sb T7.out.tg.glen T7.out.tg.gmost HNM.out.2;refine (hcall.out _ _ ba bc ga gc _ T7.out.tg).mono ?_;rintro e w8 ⟨a,c,a',c',rfl,ho8,hb8⟩;have T8:=hid (T7.out.later hb8);have f8:=T8.out.box.loose;have c8:=T8.out.box.cells;have NEW:=hid (T7.out.put (j:=i+1) (tnQ:=tnQ) (K:=KS) (H:=HS) hb8 ho8 (by obtain ⟨hp,rfl,rfl,rfl⟩:=hE.out;exact U5.out.r7.make HNM.out.1 hp));clear ho8 hb8 hZ hcall hE
      go_wp2_with fail
      refine hK.out _ _ (trivial) (fun hHeld=>?_);clear hK K;try simp only [Act.put,tq]
      refine tk 8 ?_;refine tk 9 ?_;refine tk 10 ?_;clear hHeld;refine ry 11 (fun K hK=>?_);go_simp;refine hK.out _ _ (trivial) (fun hHeld=>?_);clear hK K;try simp only [Act.put,tq]
      refine dn ?_
      go_wp2
      obtain ⟨hj,hN⟩:=NEW.out
      go_roundg (m - (i+1))
      case measure=>have:=HGK.out;omega
      case rel=>exact ⟨i+1,by omega,rfl,by go_num,_,_,_,_,_,_,_,_,_,_,hN⟩
     refine rl (fun K hK=>?_);go_simp;have T6:Hid (U7 w (w5.alloc (.cells #[.string ⟨#[105,110,98,111,120]⟩,.string ⟨#[119,111,114,107]⟩,.string ⟨#[111,108,100]⟩] 9)).drew cb ao n cap hi i y tm ba bn bc ga gn gc S G):=(U5.out.later (bpush (bre _) (.cells #[.string ⟨#[105,110,98,111,120]⟩,.string ⟨#[119,111,114,107]⟩,.string ⟨#[111,108,100]⟩] 9))).drew;have TB:Hid ((w5.alloc (.cells #[.string ⟨#[105,110,98,111,120]⟩,.string ⟨#[119,111,114,107]⟩,.string ⟨#[111,108,100]⟩] 9)).drew.heap[w5.heap.size]?=some (.cells #[.string ⟨#[105,110,98,111,120]⟩,.string ⟨#[119,111,114,107]⟩,.string ⟨#[111,108,100]⟩] 9 (0,0))):=heap_alloc_new w5 _
     have TL:Hid (w5.heap.size≠cb):=by have h1:cb<w5.heap.size:=T5.out.cur.lt;show _≠_;omega
     refine hK.out _ _ (trivial) (fun hHeld=>?_);clear hK K;try simp only [Act.put,tq]
     clear hHeld;refine wpAnyH_ready (rs:=[0,6]) (by kernel_rfl) (by simp) ?_;refine rc (fun K hK=>?_) ?_
     ·have q0:=T6.out.box.cells
      go_simp;clear q0;refine hK.out _ _ (trivial) (fun hHeld=>?_);clear hK K;try simp only [Act.put,tq]
      clear hHeld;refine ry 6 (fun K hK=>?_);go_simp;refine (pickn_any cb _ 3 [⟨#[105,110,98,111,120]⟩,⟨#[119,111,114,107]⟩,⟨#[111,108,100]⟩] ao n cap _ hn T6.out.cur (HO.out.later T6.out.gr) rfl (by decide) (by decide) TL.out (strs3 TB.out)).mono ?_;rintro e w7 ⟨nm,hnm,rfl,hc7,hg7⟩;have T7:=hid (T6.out.draw hg7 hc7);have HNM:=hid (nm_in3 hnm);clear hc7 hg7 hnm
      go_wp2_with fail
      refine hK.out _ _ (trivial) (fun hHeld=>?_);clear hK K;try simp only [Act.put,tq]
      clear hHeld;refine ry 7 (fun K hK=>?_);go_simp
      try rw [HWR.out]
      obtain ⟨p,tnQ,KS,HS,N,M,hE,hZ,hcall⟩:=make_s (100+(i:Int)) nm T7.out.tg.len T7.out.tg.most T7.out.tg.sb T7.out.tg.glen T7.out.tg.gmost HNM.out.2;refine (hcall.out _ _ ba bc ga gc _ T7.out.tg).mono ?_;rintro e w8 ⟨a,c,a',c',rfl,ho8,hb8⟩;have T8:=hid (T7.out.later hb8);have f8:=T8.out.box.loose;have c8:=T8.out.box.cells;have NEW:=hid (T7.out.put (j:=i+1) (tnQ:=tnQ) (K:=KS) (H:=HS) hb8 ho8 (by obtain ⟨hp,rfl,rfl,rfl⟩:=hE.out;exact U5.out.r7.make HNM.out.1 hp));clear ho8 hb8 hZ hcall hE
      go_wp2_with fail
      refine hK.out _ _ (trivial) (fun hHeld=>?_);clear hK K;try simp only [Act.put,tq]
      refine tk 8 ?_;refine tk 9 ?_;refine tk 10 ?_;clear hHeld;refine ry 11 (fun K hK=>?_);go_simp;refine hK.out _ _ (trivial) (fun hHeld=>?_);clear hK K;try simp only [Act.put,tq]
      refine dn ?_
      go_wp2
      obtain ⟨hj,hN⟩:=NEW.out
      go_roundg (m - (i+1))
      case measure=>have:=HGK.out;omega
      case rel=>exact ⟨i+1,by omega,rfl,by go_num,_,_,_,_,_,_,_,_,_,_,hN⟩
     refine rl (fun K hK=>?_);go_simp;refine (pickn_any cb _ 3 [⟨#[105,110,98,111,120]⟩,⟨#[119,111,114,107]⟩,⟨#[111,108,100]⟩] ao n cap _ hn T6.out.cur (HO.out.later T6.out.gr) rfl (by decide) (by decide) TL.out (strs3 TB.out)).mono ?_;rintro e w7 ⟨nm,hnm,rfl,hc7,hg7⟩;have T7:=hid (T6.out.draw hg7 hc7);have HNM:=hid (nm_in3 hnm);clear hc7 hg7 hnm
     go_wp2_with fail
     refine hK.out _ _ (trivial) (fun hHeld=>?_);clear hK K;try simp only [Act.put,tq]
     clear hHeld;refine ry 0 (fun K hK=>?_);have q0:=T7.out.box.cells;go_simp;clear q0;refine hK.out _ _ (trivial) (fun hHeld=>?_);clear hK K;try simp only [Act.put,tq]
     clear hHeld;refine ry 7 (fun K hK=>?_);go_simp
     try rw [HWR.out]
     obtain ⟨p,tnQ,KS,HS,N,M,hE,hZ,hcall⟩:=make_s (100+(i:Int)) nm T7.out.tg.len T7.out.tg.most T7.out.tg.sb T7.out.tg.glen T7.out.tg.gmost HNM.out.2;refine (hcall.out _ _ ba bc ga gc _ T7.out.tg).mono ?_;rintro e w8 ⟨a,c,a',c',rfl,ho8,hb8⟩;have T8:=hid (T7.out.later hb8);have f8:=T8.out.box.loose;have c8:=T8.out.box.cells;have NEW:=hid (T7.out.put (j:=i+1) (tnQ:=tnQ) (K:=KS) (H:=HS) hb8 ho8 (by obtain ⟨hp,rfl,rfl,rfl⟩:=hE.out;exact U5.out.r7.make HNM.out.1 hp));clear ho8 hb8 hZ hcall hE
     go_wp2_with fail
     refine hK.out _ _ (trivial) (fun hHeld=>?_);clear hK K;try simp only [Act.put,tq]
     refine tk 8 ?_;refine tk 9 ?_;refine tk 10 ?_;clear hHeld;refine ry 11 (fun K hK=>?_);go_simp;refine hK.out _ _ (trivial) (fun hHeld=>?_);clear hK K;try simp only [Act.put,tq]
     refine dn ?_
     go_wp2
     obtain ⟨hj,hN⟩:=NEW.out
     go_roundg (m - (i+1))
     case measure=>have:=HGK.out;omega
     case rel=>exact ⟨i+1,by omega,rfl,by go_num,_,_,_,_,_,_,_,_,_,_,hN⟩
    have hk1:¬ (k:Int)=0:=by omega
    have hk2:((k:Int) == 0)=false:=beq_eq_false_iff_ne.2 hk1
    by_cases hk6:k<6
    ·have hk7:(k:Int)<6:=by omega
     clear hk hk0 hk6
     go_wp2_with fail
     refine wp_region_noPanic ?_;refine wp_region_held_drew (S:=(fun _=>True)) (by kernel_rfl) (trivial) (fun hHeld=>?_);refine tk 1 ?_;refine tk 2 ?_;refine tk 3 ?_;refine tk 4 ?_;refine tk 5 ?_;refine tk 7 ?_;clear hHeld;refine wpAnyH_ready (rs:=[0,6]) (by kernel_rfl) (by simp) ?_;refine rc (fun K hK=>?_) ?_
     ·have q0:=T5.out.box.cells
      go_simp;clear q0;refine hK.out _ _ (trivial) (fun hHeld=>?_);clear hK K;try simp only [Act.put,tq]
      clear hHeld;refine ry 6 (fun K hK=>?_);go_simp;refine (below4 cb ao n cap _ hn T5.out.cur (HO.out.later T5.out.gr) 8 (by decide) (by decide)).mono ?_;rintro e w6 ⟨fl,hfl,rfl,hc6,hg6⟩;have T6:=hid (T5.out.draw hg6 hc6);clear hc6 hg6 hfl
      go_wp2_with fail
      refine hK.out _ _ (trivial) (fun hHeld=>?_);clear hK K;try simp only [Act.put,tq]
      clear hHeld;refine ry 8 (fun K hK=>?_);go_simp;refine (l05Text_any cb ao n cap _ hn T6.out.cur (HO.out.later T6.out.gr)).mono ?_;rintro e w7 ⟨tx,htx,rfl,hc7,hg7⟩;have T7:=hid (T6.out.draw hg7 hc7);have HTX:=hid htx;clear hc7 hg7 htx
      go_wp2_with fail
      refine hK.out _ _ (trivial) (fun hHeld=>?_);clear hK K;try simp only [Act.put,tq]
      clear hHeld;refine ry 9 (fun K hK=>?_);go_simp
      try rw [HWR.out]
      obtain ⟨p,tnQ,KS,HS,N,M,hE,hZ,hcall⟩:=put_s box (100+(i:Int)) (fl:Int) tx T7.out.tg.len T7.out.tg.most T7.out.tg.sb T7.out.tg.glen T7.out.tg.gmost (by have:=HTX.out;omega);refine (hcall.out _ _ ba bc ga gc _ T7.out.tg).mono ?_;rintro e w8 ⟨a,c,a',c',rfl,ho8,hb8⟩;have T8:=hid (T7.out.later hb8);have f8:=T8.out.box.loose;have c8:=T8.out.box.cells;have NEW:=hid (T7.out.put (j:=i+1) (tnQ:=tnQ) (K:=KS) (H:=HS) hb8 ho8 (by obtain ⟨hp,rfl,rfl,rfl⟩:=hE.out;exact U5.out.r7.put hp));clear ho8 hb8 hZ hcall hE
      go_wp2_with fail
      refine hK.out _ _ (trivial) (fun hHeld=>?_);clear hK K;try simp only [Act.put,tq]
      refine tk 10 ?_;refine tk 11 ?_;refine tk 12 ?_;clear hHeld;refine ry 13 (fun K hK=>?_);go_simp;refine hK.out _ _ (trivial) (fun hHeld=>?_);clear hK K;try simp only [Act.put,tq]
      refine dn ?_
      go_wp2
      obtain ⟨hj,hN⟩:=NEW.out
      go_roundg (m - (i+1))
      case measure=>have:=HGK.out;omega
      case rel=>exact ⟨i+1,by omega,rfl,by go_num,_,_,_,_,_,_,_,_,_,_,hN⟩
     refine rl (fun K hK=>?_);go_simp;refine (below4 cb ao n cap _ hn T5.out.cur (HO.out.later T5.out.gr) 8 (by decide) (by decide)).mono ?_;rintro e w6 ⟨fl,hfl,rfl,hc6,hg6⟩;have T6:=hid (T5.out.draw hg6 hc6);clear hc6 hg6 hfl
     go_wp2_with fail
     refine hK.out _ _ (trivial) (fun hHeld=>?_);clear hK K;try simp only [Act.put,tq]
     clear hHeld;refine wpAnyH_ready (rs:=[0,8]) (by kernel_rfl) (by simp) ?_;refine rc (fun K hK=>?_) ?_
     ·have q0:=T6.out.box.cells
      go_simp;clear q0;refine hK.out _ _ (trivial) (fun hHeld=>?_);clear hK K;try simp only [Act.put,tq]
      clear hHeld;refine ry 8 (fun K hK=>?_);go_simp;refine (l05Text_any cb ao n cap _ hn T6.out.cur (HO.out.later T6.out.gr)).mono ?_;rintro e w7 ⟨tx,htx,rfl,hc7,hg7⟩;have T7:=hid (T6.out.draw hg7 hc7);have HTX:=hid htx;clear hc7 hg7 htx
      go_wp2_with fail
      refine hK.out _ _ (trivial) (fun hHeld=>?_);clear hK K;try simp only [Act.put,tq]
      clear hHeld;refine ry 9 (fun K hK=>?_);go_simp
      try rw [HWR.out]
      obtain ⟨p,tnQ,KS,HS,N,M,hE,hZ,hcall⟩:=put_s box (100+(i:Int)) (fl:Int) tx T7.out.tg.len T7.out.tg.most T7.out.tg.sb T7.out.tg.glen T7.out.tg.gmost (by have:=HTX.out;omega);refine (hcall.out _ _ ba bc ga gc _ T7.out.tg).mono ?_;rintro e w8 ⟨a,c,a',c',rfl,ho8,hb8⟩;have T8:=hid (T7.out.later hb8);have f8:=T8.out.box.loose;have c8:=T8.out.box.cells;have NEW:=hid (T7.out.put (j:=i+1) (tnQ:=tnQ) (K:=KS) (H:=HS) hb8 ho8 (by obtain ⟨hp,rfl,rfl,rfl⟩:=hE.out;exact U5.out.r7.put hp));clear ho8 hb8 hZ hcall hE
      go_wp2_with fail
      refine hK.out _ _ (trivial) (fun hHeld=>?_);clear hK K;try simp only [Act.put,tq]
      refine tk 10 ?_;refine tk 11 ?_;refine tk 12 ?_;clear hHeld;refine ry 13 (fun K hK=>?_);go_simp;refine hK.out _ _ (trivial) (fun hHeld=>?_);clear hK K;try simp only [Act.put,tq]
      refine dn ?_
      go_wp2
      obtain ⟨hj,hN⟩:=NEW.out
      go_roundg (m - (i+1))
      case measure=>have:=HGK.out;omega
      case rel=>exact ⟨i+1,by omega,rfl,by go_num,_,_,_,_,_,_,_,_,_,_,hN⟩
     refine rl (fun K hK=>?_);go_simp;refine (l05Text_any cb ao n cap _ hn T6.out.cur (HO.out.later T6.out.gr)).mono ?_;rintro e w7 ⟨tx,htx,rfl,hc7,hg7⟩;have T7:=hid (T6.out.draw hg7 hc7);have HTX:=hid htx;clear hc7 hg7 htx
     go_wp2_with fail
     refine hK.out _ _ (trivial) (fun hHeld=>?_);clear hK K;try simp only [Act.put,tq]
     clear hHeld;refine ry 0 (fun K hK=>?_);have q0:=T7.out.box.cells;go_simp;clear q0;refine hK.out _ _ (trivial) (fun hHeld=>?_);clear hK K;try simp only [Act.put,tq]
     clear hHeld;refine ry 9 (fun K hK=>?_);go_simp
     try rw [HWR.out]
     obtain ⟨p,tnQ,KS,HS,N,M,hE,hZ,hcall⟩:=put_s box (100+(i:Int)) (fl:Int) tx T7.out.tg.len T7.out.tg.most T7.out.tg.sb T7.out.tg.glen T7.out.tg.gmost (by have:=HTX.out;omega);refine (hcall.out _ _ ba bc ga gc _ T7.out.tg).mono ?_;rintro e w8 ⟨a,c,a',c',rfl,ho8,hb8⟩;have T8:=hid (T7.out.later hb8);have f8:=T8.out.box.loose;have c8:=T8.out.box.cells;have NEW:=hid (T7.out.put (j:=i+1) (tnQ:=tnQ) (K:=KS) (H:=HS) hb8 ho8 (by obtain ⟨hp,rfl,rfl,rfl⟩:=hE.out;exact U5.out.r7.put hp));clear ho8 hb8 hZ hcall hE
     go_wp2_with fail
     refine hK.out _ _ (trivial) (fun hHeld=>?_);clear hK K;try simp only [Act.put,tq]
     refine tk 10 ?_;refine tk 11 ?_;refine tk 12 ?_;clear hHeld;refine ry 13 (fun K hK=>?_);go_simp;refine hK.out _ _ (trivial) (fun hHeld=>?_);clear hK K;try simp only [Act.put,tq]
     refine dn ?_
     go_wp2
     obtain ⟨hj,hN⟩:=NEW.out
     go_roundg (m - (i+1))
     case measure=>have:=HGK.out;omega
     case rel=>exact ⟨i+1,by omega,rfl,by go_num,_,_,_,_,_,_,_,_,_,_,hN⟩
    have hk7:¬ (k:Int)<6:=by omega
    by_cases hk9:k<9
    ·have hk8:(k:Int)<9:=by omega
     clear hk hk0 hk6 hk9
     go_wp2_with fail
     refine wp_region_noPanic ?_;refine wp_region_held_drew (S:=(fun _=>True)) (by kernel_rfl) (trivial) (fun hHeld=>?_);refine tk 1 ?_;refine tk 2 ?_;refine tk 3 ?_;clear hHeld;refine wpAnyH_ready (rs:=[0,4]) (by kernel_rfl) (by simp) ?_;refine rc (fun K hK=>?_) ?_
     ·have q0:=T5.out.box.cells
      go_simp;clear q0;refine hK.out _ _ (trivial) (fun hHeld=>?_);clear hK K;try simp only [Act.put,tq]
      clear hHeld;refine ry 4 (fun K hK=>?_);go_simp;refine (below4 cb ao n cap _ hn T5.out.cur (HO.out.later T5.out.gr) 8 (by decide) (by decide)).mono ?_;rintro e w6 ⟨fl,hfl,rfl,hc6,hg6⟩;have T6:=hid (T5.out.draw hg6 hc6);clear hc6 hg6 hfl
      go_wp2_with fail
      refine hK.out _ _ (trivial) (fun hHeld=>?_);clear hK K;try simp only [Act.put,tq]
      clear hHeld;refine ry 5 (fun K hK=>?_);go_simp;obtain ⟨p,tnQ,KS,HS,N,M,hE,hZ,hcall⟩:=mark_s box gid (fl:Int) T6.out.tg.len T6.out.tg.most T6.out.tg.sb T6.out.tg.glen T6.out.tg.gmost;refine (hcall.out _ _ ba bc ga gc _ T6.out.tg).mono ?_;rintro e w8 ⟨a,c,a',c',rfl,ho8,hb8⟩;have T8:=hid (T6.out.later hb8);have f8:=T8.out.box.loose;have c8:=T8.out.box.cells;have NEW:=hid (T6.out.put (j:=i+1) (tnQ:=tnQ) (K:=KS) (H:=HS) hb8 ho8 (by obtain ⟨hp,rfl,rfl,rfl⟩:=hE.out;exact U5.out.r7.mark hp));clear ho8 hb8 hZ hcall hE
      go_wp2_with fail
      refine hK.out _ _ (trivial) (fun hHeld=>?_);clear hK K;try simp only [Act.put,tq]
      refine tk 6 ?_;refine tk 7 ?_;refine tk 8 ?_;clear hHeld;refine ry 9 (fun K hK=>?_);go_simp;refine hK.out _ _ (trivial) (fun hHeld=>?_);clear hK K;try simp only [Act.put,tq]
      refine dn ?_
      go_wp2
      obtain ⟨hj,hN⟩:=NEW.out
      go_roundg (m - (i+1))
      case measure=>have:=HGK.out;omega
      case rel=>exact ⟨i+1,by omega,rfl,by go_num,_,_,_,_,_,_,_,_,_,_,hN⟩
     refine rl (fun K hK=>?_);go_simp;refine (below4 cb ao n cap _ hn T5.out.cur (HO.out.later T5.out.gr) 8 (by decide) (by decide)).mono ?_;rintro e w6 ⟨fl,hfl,rfl,hc6,hg6⟩;have T6:=hid (T5.out.draw hg6 hc6);clear hc6 hg6 hfl
     go_wp2_with fail
     refine hK.out _ _ (trivial) (fun hHeld=>?_);clear hK K;try simp only [Act.put,tq]
     clear hHeld;refine ry 0 (fun K hK=>?_);have q0:=T6.out.box.cells;go_simp;clear q0;refine hK.out _ _ (trivial) (fun hHeld=>?_);clear hK K;try simp only [Act.put,tq]
     clear hHeld;refine ry 5 (fun K hK=>?_);go_simp;obtain ⟨p,tnQ,KS,HS,N,M,hE,hZ,hcall⟩:=mark_s box gid (fl:Int) T6.out.tg.len T6.out.tg.most T6.out.tg.sb T6.out.tg.glen T6.out.tg.gmost;refine (hcall.out _ _ ba bc ga gc _ T6.out.tg).mono ?_;rintro e w8 ⟨a,c,a',c',rfl,ho8,hb8⟩;have T8:=hid (T6.out.later hb8);have f8:=T8.out.box.loose;have c8:=T8.out.box.cells;have NEW:=hid (T6.out.put (j:=i+1) (tnQ:=tnQ) (K:=KS) (H:=HS) hb8 ho8 (by obtain ⟨hp,rfl,rfl,rfl⟩:=hE.out;exact U5.out.r7.mark hp));clear ho8 hb8 hZ hcall hE
     go_wp2_with fail
     refine hK.out _ _ (trivial) (fun hHeld=>?_);clear hK K;try simp only [Act.put,tq]
     refine tk 6 ?_;refine tk 7 ?_;refine tk 8 ?_;clear hHeld;refine ry 9 (fun K hK=>?_);go_simp;refine hK.out _ _ (trivial) (fun hHeld=>?_);clear hK K;try simp only [Act.put,tq]
     refine dn ?_
     go_wp2
     obtain ⟨hj,hN⟩:=NEW.out
     go_roundg (m - (i+1))
     case measure=>have:=HGK.out;omega
     case rel=>exact ⟨i+1,by omega,rfl,by go_num,_,_,_,_,_,_,_,_,_,_,hN⟩
    have hk8:¬ (k:Int)<9:=by omega
    have h3:k=9∨k=10∨k=11:=by omega
    clear hk hk0 hk6 hk9 hk1 hk2 hk7 hk8
    rcases h3 with rfl | rfl | rfl
    ·clear T5
     have q0:=U5.out.box.cells
     go_wp2_with fail
     obtain ⟨p,tnQ,KS,HS,N,M,hE,hZ,hcall⟩:=dropM_s box gid U5.out.tg.len U5.out.tg.most U5.out.tg.sb U5.out.tg.glen U5.out.tg.gmost;refine (hcall.out _ _ ba bc ga gc _ U5.out.tg).mono ?_;rintro e w8 ⟨a,c,a',c',rfl,ho8,hb8⟩;have T8:=hid (U5.out.later hb8);have f8:=T8.out.box.loose;have c8:=T8.out.box.cells;have NEW:=hid (U5.out.put (j:=i+1) (tnQ:=tnQ) (K:=KS) (H:=HS) hb8 ho8 (by obtain ⟨hp,rfl,rfl,rfl⟩:=hE.out;exact U5.out.r7.dropM hp));clear ho8 hb8 hZ hcall hE
     go_wp2_with fail
     go_wp2
     obtain ⟨hj,hN⟩:=NEW.out
     go_roundg (m - (i+1))
     case measure=>have:=HGK.out;omega
     case rel=>exact ⟨i+1,by omega,rfl,by go_num,_,_,_,_,_,_,_,_,_,_,hN⟩
    ·go_wp2_with fail
     refine wp_region_noPanic ?_;refine wp_region_held_drew (S:=(fun _=>True)) (by kernel_rfl) (trivial) (fun hHeld=>?_);refine tk 1 ?_;refine tk 2 ?_;clear hHeld;refine wpAnyH_ready (rs:=[0,3]) (by kernel_rfl) (by simp) ?_;refine rc (fun K hK=>?_) ?_
     ·have q0:=T5.out.box.cells
      go_simp;clear q0;refine hK.out _ _ (trivial) (fun hHeld=>?_);clear hK K;try simp only [Act.put,tq]
      clear hHeld;refine ry 3 (fun K hK=>?_);go_simp;have T6:Hid (U7 w (w5.alloc (.cells #[.string ⟨#[105,110,98,111,120]⟩,.string ⟨#[119,111,114,107]⟩,.string ⟨#[110,101,119]⟩,.string ⟨#[111,116,104,101,114]⟩] 9)).drew cb ao n cap hi i y tm ba bn bc ga gn gc S G):=(U5.out.later (bpush (bre _) (.cells #[.string ⟨#[105,110,98,111,120]⟩,.string ⟨#[119,111,114,107]⟩,.string ⟨#[110,101,119]⟩,.string ⟨#[111,116,104,101,114]⟩] 9))).drew;have TB:Hid ((w5.alloc (.cells #[.string ⟨#[105,110,98,111,120]⟩,.string ⟨#[119,111,114,107]⟩,.string ⟨#[110,101,119]⟩,.string ⟨#[111,116,104,101,114]⟩] 9)).drew.heap[w5.heap.size]?=some (.cells #[.string ⟨#[105,110,98,111,120]⟩,.string ⟨#[119,111,114,107]⟩,.string ⟨#[110,101,119]⟩,.string ⟨#[111,116,104,101,114]⟩] 9 (0,0))):=heap_alloc_new w5 _
      have TL:Hid (w5.heap.size≠cb):=by have h1:cb<w5.heap.size:=T5.out.cur.lt;show _≠_;omega
      refine hK.out _ _ (trivial) (fun hHeld=>?_);clear hK K;try simp only [Act.put,tq]
      clear hHeld;refine ry 4 (fun K hK=>?_);go_simp;refine (pickn_any cb _ 4 [⟨#[105,110,98,111,120]⟩,⟨#[119,111,114,107]⟩,⟨#[110,101,119]⟩,⟨#[111,116,104,101,114]⟩] ao n cap _ hn T6.out.cur (HO.out.later T6.out.gr) rfl (by decide) (by decide) TL.out (strs4 TB.out)).mono ?_;rintro e w7 ⟨nm,hnm,rfl,hc7,hg7⟩;have T7:=hid (T6.out.draw hg7 hc7);have HNM:=hid (nm_in4 hnm);clear hc7 hg7 hnm
      go_wp2_with fail
      refine hK.out _ _ (trivial) (fun hHeld=>?_);clear hK K;try simp only [Act.put,tq]
      clear hHeld;refine ry 5 (fun K hK=>?_);go_simp;obtain ⟨p,tnQ,KS,HS,N,M,hE,hZ,hcall⟩:=ren_s box nm T7.out.tg.len T7.out.tg.most T7.out.tg.sb T7.out.tg.glen T7.out.tg.gmost HNM.out.2;refine (hcall.out _ _ ba bc ga gc _ T7.out.tg).mono ?_;rintro e w8 ⟨a,c,a',c',rfl,ho8,hb8⟩;have T8:=hid (T7.out.later hb8);have f8:=T8.out.box.loose;have c8:=T8.out.box.cells;have NEW:=hid (T7.out.put (j:=i+1) (tnQ:=tnQ) (K:=KS) (H:=HS) hb8 ho8 (by obtain ⟨hp,rfl,rfl,rfl⟩:=hE.out;exact U5.out.r7.ren HNM.out.1 hp));clear ho8 hb8 hZ hcall hE
      go_wp2_with fail
      refine hK.out _ _ (trivial) (fun hHeld=>?_);clear hK K;try simp only [Act.put,tq]
      refine tk 6 ?_;refine tk 7 ?_;refine tk 8 ?_;clear hHeld;refine ry 9 (fun K hK=>?_);go_simp;refine hK.out _ _ (trivial) (fun hHeld=>?_);clear hK K;try simp only [Act.put,tq]
      refine dn ?_
      go_wp2
      obtain ⟨hj,hN⟩:=NEW.out
      go_roundg (m - (i+1))
      case measure=>have:=HGK.out;omega
      case rel=>exact ⟨i+1,by omega,rfl,by go_num,_,_,_,_,_,_,_,_,_,_,hN⟩
     refine rl (fun K hK=>?_);go_simp;have T6:Hid (U7 w (w5.alloc (.cells #[.string ⟨#[105,110,98,111,120]⟩,.string ⟨#[119,111,114,107]⟩,.string ⟨#[110,101,119]⟩,.string ⟨#[111,116,104,101,114]⟩] 9)).drew cb ao n cap hi i y tm ba bn bc ga gn gc S G):=(U5.out.later (bpush (bre _) (.cells #[.string ⟨#[105,110,98,111,120]⟩,.string ⟨#[119,111,114,107]⟩,.string ⟨#[110,101,119]⟩,.string ⟨#[111,116,104,101,114]⟩] 9))).drew;have TB:Hid ((w5.alloc (.cells #[.string ⟨#[105,110,98,111,120]⟩,.string ⟨#[119,111,114,107]⟩,.string ⟨#[110,101,119]⟩,.string ⟨#[111,116,104,101,114]⟩] 9)).drew.heap[w5.heap.size]?=some (.cells #[.string ⟨#[105,110,98,111,120]⟩,.string ⟨#[119,111,114,107]⟩,.string ⟨#[110,101,119]⟩,.string ⟨#[111,116,104,101,114]⟩] 9 (0,0))):=heap_alloc_new w5 _
     have TL:Hid (w5.heap.size≠cb):=by have h1:cb<w5.heap.size:=T5.out.cur.lt;show _≠_;omega
     refine hK.out _ _ (trivial) (fun hHeld=>?_);clear hK K;try simp only [Act.put,tq]
     clear hHeld;refine wpAnyH_ready (rs:=[0,4]) (by kernel_rfl) (by simp) ?_;refine rc (fun K hK=>?_) ?_
     ·have q0:=T6.out.box.cells
      go_simp;clear q0;refine hK.out _ _ (trivial) (fun hHeld=>?_);clear hK K;try simp only [Act.put,tq]
      clear hHeld;refine ry 4 (fun K hK=>?_);go_simp;refine (pickn_any cb _ 4 [⟨#[105,110,98,111,120]⟩,⟨#[119,111,114,107]⟩,⟨#[110,101,119]⟩,⟨#[111,116,104,101,114]⟩] ao n cap _ hn T6.out.cur (HO.out.later T6.out.gr) rfl (by decide) (by decide) TL.out (strs4 TB.out)).mono ?_;rintro e w7 ⟨nm,hnm,rfl,hc7,hg7⟩;have T7:=hid (T6.out.draw hg7 hc7);have HNM:=hid (nm_in4 hnm);clear hc7 hg7 hnm
      go_wp2_with fail
      refine hK.out _ _ (trivial) (fun hHeld=>?_);clear hK K;try simp only [Act.put,tq]
      clear hHeld;refine ry 5 (fun K hK=>?_);go_simp;obtain ⟨p,tnQ,KS,HS,N,M,hE,hZ,hcall⟩:=ren_s box nm T7.out.tg.len T7.out.tg.most T7.out.tg.sb T7.out.tg.glen T7.out.tg.gmost HNM.out.2;refine (hcall.out _ _ ba bc ga gc _ T7.out.tg).mono ?_;rintro e w8 ⟨a,c,a',c',rfl,ho8,hb8⟩;have T8:=hid (T7.out.later hb8);have f8:=T8.out.box.loose;have c8:=T8.out.box.cells;have NEW:=hid (T7.out.put (j:=i+1) (tnQ:=tnQ) (K:=KS) (H:=HS) hb8 ho8 (by obtain ⟨hp,rfl,rfl,rfl⟩:=hE.out;exact U5.out.r7.ren HNM.out.1 hp));clear ho8 hb8 hZ hcall hE
      go_wp2_with fail
      refine hK.out _ _ (trivial) (fun hHeld=>?_);clear hK K;try simp only [Act.put,tq]
      refine tk 6 ?_;refine tk 7 ?_;refine tk 8 ?_;clear hHeld;refine ry 9 (fun K hK=>?_);go_simp;refine hK.out _ _ (trivial) (fun hHeld=>?_);clear hK K;try simp only [Act.put,tq]
      refine dn ?_
      go_wp2
      obtain ⟨hj,hN⟩:=NEW.out
      go_roundg (m - (i+1))
      case measure=>have:=HGK.out;omega
      case rel=>exact ⟨i+1,by omega,rfl,by go_num,_,_,_,_,_,_,_,_,_,_,hN⟩
     refine rl (fun K hK=>?_);go_simp;refine (pickn_any cb _ 4 [⟨#[105,110,98,111,120]⟩,⟨#[119,111,114,107]⟩,⟨#[110,101,119]⟩,⟨#[111,116,104,101,114]⟩] ao n cap _ hn T6.out.cur (HO.out.later T6.out.gr) rfl (by decide) (by decide) TL.out (strs4 TB.out)).mono ?_;rintro e w7 ⟨nm,hnm,rfl,hc7,hg7⟩;have T7:=hid (T6.out.draw hg7 hc7);have HNM:=hid (nm_in4 hnm);clear hc7 hg7 hnm
     go_wp2_with fail
     refine hK.out _ _ (trivial) (fun hHeld=>?_);clear hK K;try simp only [Act.put,tq]
     clear hHeld;refine ry 0 (fun K hK=>?_);have q0:=T7.out.box.cells;go_simp;clear q0;refine hK.out _ _ (trivial) (fun hHeld=>?_);clear hK K;try simp only [Act.put,tq]
     clear hHeld;refine ry 5 (fun K hK=>?_);go_simp;obtain ⟨p,tnQ,KS,HS,N,M,hE,hZ,hcall⟩:=ren_s box nm T7.out.tg.len T7.out.tg.most T7.out.tg.sb T7.out.tg.glen T7.out.tg.gmost HNM.out.2;refine (hcall.out _ _ ba bc ga gc _ T7.out.tg).mono ?_;rintro e w8 ⟨a,c,a',c',rfl,ho8,hb8⟩;have T8:=hid (T7.out.later hb8);have f8:=T8.out.box.loose;have c8:=T8.out.box.cells;have NEW:=hid (T7.out.put (j:=i+1) (tnQ:=tnQ) (K:=KS) (H:=HS) hb8 ho8 (by obtain ⟨hp,rfl,rfl,rfl⟩:=hE.out;exact U5.out.r7.ren HNM.out.1 hp));clear ho8 hb8 hZ hcall hE
     go_wp2_with fail
     refine hK.out _ _ (trivial) (fun hHeld=>?_);clear hK K;try simp only [Act.put,tq]
     refine tk 6 ?_;refine tk 7 ?_;refine tk 8 ?_;clear hHeld;refine ry 9 (fun K hK=>?_);go_simp;refine hK.out _ _ (trivial) (fun hHeld=>?_);clear hK K;try simp only [Act.put,tq]
     refine dn ?_
     go_wp2
     obtain ⟨hj,hN⟩:=NEW.out
     go_roundg (m - (i+1))
     case measure=>have:=HGK.out;omega
     case rel=>exact ⟨i+1,by omega,rfl,by go_num,_,_,_,_,_,_,_,_,_,_,hN⟩
    clear T5
    go_wp2_with fail
    refine (once_any cb ao n cap _ hn U5.out.cur (HO.out.later U5.out.gr) 3 (by decide) (by decide)).mono ?_;rintro e w6 ⟨q,rfl,hc,hg⟩;have U6:=hid (U5.out.draw hg hc);clear hc hg
    cases q with
    | false =>
     go_wp2
     go_roundg (m - (i+1))
     case measure=>have:=HGK.out;omega
     case rel=>exact ⟨i+1,by omega,rfl,by go_num,_,_,_,_,_,_,_,_,_,_,U6.out.next⟩
    | true =>
     have q0:=U6.out.box.cells
     go_wp2_with fail
     obtain ⟨p,tnQ,KS,HS,N,M,hE,hZ,hcall⟩:=dropB_s box U6.out.tg.len U6.out.tg.most U6.out.tg.sb U6.out.tg.glen U6.out.tg.gmost;refine (hcall.out _ _ ba bc ga gc _ U6.out.tg).mono ?_;rintro e w8 ⟨a,c,a',c',rfl,ho8,hb8⟩;have T8:=hid (U6.out.later hb8);have f8:=T8.out.box.loose;have c8:=T8.out.box.cells;have NEW:=hid (U6.out.put (j:=i+1) (tnQ:=tnQ) (K:=KS) (H:=HS) hb8 ho8 (by obtain ⟨hp,rfl,rfl,rfl⟩:=hE.out;exact U6.out.r7.dropB hp));clear ho8 hb8 hZ hcall hE
     go_wp2_with fail
     go_wp2
     obtain ⟨hj,hN⟩:=NEW.out
     go_roundg (m - (i+1))
     case measure=>have:=HGK.out;omega
     case rel=>exact ⟨i+1,by omega,rfl,by go_num,_,_,_,_,_,_,_,_,_,_,hN⟩
  have him':¬ (i:Int)<(m:Int):=by omega
  have q0:=U9.out.box.cells;have q1:=U9.out.res.cells;have f1:=U9.out.res.loose;clear him
  go_wp2
  have e2:=put4_grown wr (w.heap.size+1) y tm (.slice ba bn bc) (.slice ga gn gc);have d1:=(U9.out.res.put4 y tm (.slice ba bn bc) (.slice ga gn gc)).cells;have h3:=U9.out.lo
  have e3:w.grownBy (put4 wr (w.heap.size+1) y tm (.slice ba bn bc) (.slice ga gn gc)) (some cb):=by
   unfold put4;exact gset (gset (gset (gset U9.out.gr (Nat.le_succ _) _ _) (Nat.le_succ _) _ _) (Nat.le_succ _) _ _) (Nat.le_succ _) _ _
  have e4:Cur (put4 wr (w.heap.size+1) y tm (.slice ba bn bc) (.slice ga gn gc)) cb ao n cap:=by
   unfold put4;exact (((U9.out.cur.set (by omega)).set (by omega)).set (by omega)).set (by omega)
  unfold put4 at d1 e2 e3 e4;have hr:R7 13 y tm S G:=U9.out.r7.mono (by omega);refine bodyPost_ret (v:=.agg #[.int .i64 y,.int .i64 tm,.slice ba bn bc,.slice ga gn gc]) (by simp [results,Tryz.results116,go_sem,d1]) rfl ⟨hi,y,tm,ba,bn,bc,ga,gn,gc,S,G,rfl,hr,?_,e4,e3⟩;exact ((U9.out.tg.far e2 (.inl (Nat.lt_succ_self _))).wide (by omega) (Nat.le_refl _) (by have h:=(U9.out.tg.far e2 (.inl (Nat.lt_succ_self _))).top;exact h))
end Go.Proofs.YtdkedgedkgabnaaGreatDoor
