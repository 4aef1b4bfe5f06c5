/- Utb. -/

import Derived.Test.YtkbecgcbheopnaaGreatdUta
namespace Go.Proofs.YtkbecgcbheopnaaGreat
open Go.RowKit Go.ChangeMaps
structure N7 (w W:World) (ao:Option Addr) (n cap kS hi:Nat) (y tm:Int) (ba:Option Addr) (bn bc:Nat) (ga:Option Addr) (gn gc:Nat) (S:List X7) (G:List Int):Prop where
 res:Sx W w.heap.size 27 0 0 (.slice none 0 0) (.slice none 0 0)
 box:Sx W kS 27 y tm (.slice ba bn bc) (.slice ga gn gc)
 tg:Tg W (w.heap.size+2) hi ba bn bc ga gn gc S G
 cur:Cur W (w.heap.size+1) ao n cap
 code:Code W (w.heap.size+1) ao n
 be:Below w.heap.size w W
 lo:w.heap.size+1<kS
 hk:hi≤kS
 tmb:-1≤tm∧tm≤100001
section
variable {w W W':World} {ao:Option Addr} {n cap kS hi:Nat} {y tm:Int} {ba:Option Addr} {bn bc:Nat} {ga:Option Addr} {gn gc:Nat} {S:List X7} {G:List Int}
theorem N7.drew (h:N7 w W ao n cap kS hi y tm ba bn bc ga gn gc S G):N7 w W.drew ao n cap kS hi y tm ba bn bc ga gn gc S G:=⟨h.res,h.box,h.tg.later (bdr (bre _)),h.cur,h.code,bdr h.be,h.lo,h.hk,h.tmb⟩
theorem N7.later (h:N7 w W ao n cap kS hi y tm ba bn bc ga gn gc S G) (hb:Below W.heap.size W W'):N7 w W' ao n cap kS hi y tm ba bn bc ga gn gc S G :=
 ⟨h.res.later hb,h.box.later hb,h.tg.later hb,h.cur.later hb h.cur.lt,h.code.later ⟨hb.os,hb.tape,hb.output,hb.size,fun i hi _=>hb.block i hi⟩,btr h.be hb,h.lo,h.hk,h.tmb⟩
theorem N7.draw (h:N7 w W ao n cap kS hi y tm ba bn bc ga gn gc S G) (hg:W.grownBy W' (some (w.heap.size+1))) (hc:Cur W' (w.heap.size+1) ao n cap):N7 w W' ao n cap kS hi y tm ba bn bc ga gn gc S G:=by
 have h1:=h.lo
 exact ⟨h.res.off hg (by omega),h.box.off hg (by omega),h.tg.far hg (.inl (by omega)),hc,h.code.later hg,h.be.trans (only_below hg (by omega) h.be.size),h.lo,h.hk,h.tmb⟩
theorem N7.far {k:Nat} (h:N7 w W ao n cap kS hi y tm ba bn bc ga gn gc S G) (hg:W.grownBy W' (some k)) (h1:kS<k):N7 w W' ao n cap kS hi y tm ba bn bc ga gn gc S G:=by
 have h2:=h.lo
 have h3:=h.hk
 refine ⟨h.res.off hg (by omega),h.box.off hg (by omega),h.tg.far hg (.inr (by omega)),?_,?_,h.be.trans (only_below hg (by omega) h.be.size),h.lo,h.hk,h.tmb⟩
 ·obtain ⟨i,x,c1,c2⟩:=h.cur
  exact ⟨i,x,c1,(hg.block _ (Array.getElem?_eq_some_iff.1 c2).1 (fun e=>by simp only [Option.some.injEq] at e;omega)).trans c2⟩
 ·intro hn
  obtain ⟨b,off,e1,e2,e3⟩:=h.code hn
  refine ⟨b,off,e1,e2,fun j hj=>?_⟩
  obtain ⟨z,hz,hc⟩:=e3 j hj
  exact ⟨z,hz,(cell_same (p:=⟨b,_,none⟩) (hg.block b (by have:=h.cur.lt;omega) (fun e=>by simp only [Option.some.injEq] at e;omega))).trans hc⟩
end
def Some7 (w:World) (e:Ending) (w':World):Prop :=
 ∃ (hi:Nat) (y tm:Int) (ba:Option Addr) (bn bc:Nat) (ga:Option Addr) (gn gc:Nat) (S:List X7) (G:List Int) (box gid:Int),e=.returned (.tuple #[.agg #[.int .i64 y,.int .i64 tm,.slice ba bn bc,.slice ga gn gc],.int .i64 box,.int .i64 gid])∧(-1≤tm∧tm≤100001)∧Tg w' (w.heap.size+1) hi ba bn bc ga gn gc S G∧Below w.heap.size w w'
theorem some7_end {w W:World} {ao:Option Addr} {n cap kS hi:Nat} {y tm:Int} {ba:Option Addr} {bn bc:Nat} {ga:Option Addr} {gn gc:Nat} {S:List X7} {G:List Int} {a:Act} (h:N7 w W ao n cap kS hi y tm ba bn bc ga gn gc S G) (box gid:Int)
  (hres:∀ W',W'=((((W.setCell ⟨w.heap.size,0,none⟩ (.int .i64 y)).setCell ⟨w.heap.size,1,none⟩ (.int .i64 tm)).setCell ⟨w.heap.size,2,none⟩ (.slice ba bn bc)).setCell ⟨w.heap.size,3,none⟩ (.slice ga gn gc))→(W'.cell? ⟨w.heap.size,0,none⟩=some (.int .i64 y)∧W'.cell? ⟨w.heap.size,1,none⟩=some (.int .i64 tm)∧W'.cell? ⟨w.heap.size,2,none⟩=some (.slice ba bn bc)∧W'.cell? ⟨w.heap.size,3,none⟩=some (.slice ga gn gc))→(results Tryz.f66 a.tmps).run Tryz.prog W'=.ok (.tuple #[.agg #[.int .i64 y,.int .i64 tm,.slice ba bn bc,.slice ga gn gc],.int .i64 box,.int .i64 gid]) W') (hdef:a.defers=[]:=by rfl) :
  bodyPost Tryz.prog Tryz.f66 (fun e w'=>Some7 w e w') Exit.ret a ((((W.setCell ⟨w.heap.size,0,none⟩ (.int .i64 y)).setCell ⟨w.heap.size,1,none⟩ (.int .i64 tm)).setCell ⟨w.heap.size,2,none⟩ (.slice ba bn bc)).setCell ⟨w.heap.size,3,none⟩ (.slice ga gn gc)):=by
 have h1:=h.lo
 have e2:=put4_grown W w.heap.size y tm (.slice ba bn bc) (.slice ga gn gc)
 have d1:=(h.res.put4 y tm (.slice ba bn bc) (.slice ga gn gc)).cells
 unfold put4 at d1 e2
 have e3:=h.tg.far e2 (.inl (by omega))
 exact bodyPost_ret (hres _ rfl d1) hdef ⟨hi,y,tm,ba,bn,bc,ga,gn,gc,S,G,box,gid,rfl,h.tmb,e3.wide (by omega) (Nat.le_refl _) e3.top,h.be.trans (only_below e2 (Nat.le_refl _) h.be.size)⟩
set_option maxHeartbeats 16000000 in
set_option maxRecDepth 100000 in
theorem l07Some_any (ao:Option Addr) (n cap:Nat) (w:World) (hn:n≤1048576) (hcode:Code w w.heap.size ao n) :
  Calls Tryz.prog 66 #[.slice ao n cap] w fun e w'=>Some7 w e w':=by
 have R0:=hid (Sx.new w 27 0 0 (.slice none 0 0) (.slice none 0 0))
 have N0:=hid (bpush (bre w) (.cells #[.int .i64 0,.int .i64 0,.slice none 0 0,.slice none 0 0] 27))
 have O0:=hid (hcode.over N0.out)
 clear hcode
 go_enter Tryz.func66,Tryz.ntmps66
 go_wp2_with fail
 refine (new_any ao n cap _ hn O0.out).mono ?_;rintro e w1 ⟨rfl,hc,ho,hb⟩
 have e1:(w.alloc (.cells #[.int .i64 0,.int .i64 0,.slice none 0 0,.slice none 0 0] 27)).heap.size=w.heap.size+1:=by simp
 rw [e1] at hc ho ⊢
 have C1:=hid hc
 have O1:=hid ho
 have R1:=hid (R0.out.later hb)
 have B1:=hid (btr N0.out hb)
 clear hc ho hb R0 N0 O0 e1
 go_wp2_with fail
 refine (below4 (w.heap.size+1) ao n cap _ hn C1.out O1.out 8 (by decide) (by decide)).mono ?_;rintro e w2 ⟨k,hk,rfl,hc,hg⟩
 have C2:=hid hc
 have O2:=hid (O1.out.later hg)
 have R2:=hid (R1.out.off hg (by omega))
 have B2:=hid (B1.out.trans (only_below hg (by omega) B1.out.size))
 clear hc hg C1 O1 R1 B1 hk
 go_wp2_with fail
 refine (l07Any_any (w.heap.size+1) ao n cap _ hn C2.out O2.out).mono ?_;rintro e w3 ⟨hi,y,tm,ba,bn,bc,ga,gn,gc,S,G,rfl,htm,ht,hc,hg⟩
 obtain ⟨kS,hkS⟩:∃ kS,w3.heap.size=kS:=⟨_,rfl⟩
 obtain ⟨W3,hW3⟩:∃ W3,w3.alloc (.cells #[.int .i64 y,.int .i64 tm,.slice ba bn bc,.slice ga gn gc] 27)=W3:=⟨_,rfl⟩
 have U9:Hid (N7 w W3 ao n cap kS hi y tm ba bn bc ga gn gc S G):=by
  have h1:(w.heap.size+1)<w2.heap.size:=C2.out.lt
  have h2:=hg.size
  have h3:Below w3.heap.size w3 W3:=by rw [← hW3];exact bpush (bre _) _
  refine ⟨(R2.out.off hg (by omega)).later h3,?_,(ht.wide (lo':=w.heap.size+2) (by omega) (Nat.le_refl _) ht.top).later h3,hc.later h3 hc.lt,?_,?_,by omega,by rw [← hkS];exact ht.top,htm⟩
  ·rw [← hW3,← hkS];exact Sx.new _ _ _ _ _ _
  ·exact (O2.out.later hg).later ⟨h3.os,h3.tape,h3.output,h3.size,fun i hi _=>h3.block i hi⟩
  ·exact (B2.out.trans (only_below hg (by omega) B2.out.size)).trans (h3.mono (by have:=B2.out.size;omega))
 clear htm ht hc hg C2 O2 R2 B2
 rcases Nat.eq_zero_or_pos bn with hb0 | hb0
 ·have hbz:¬ (0:Int)<(bn:Int):=by omega
  clear hb0
  have q0:=U9.out.box.cells
  have q1:=U9.out.res.cells
  have f1:=U9.out.res.loose
  go_wp2
  exact some7_end U9.out (55) (56) (fun W' _ d=>by simp [results,Tryz.results66,go_sem,d])
 ·rcases Nat.eq_zero_or_pos k with hk0 | hk0
  ·subst hk0
   have hbz:(0:Int)<(bn:Int):=by omega
   clear hb0
   have q0:=U9.out.box.cells
   have q1:=U9.out.res.cells
   have f1:=U9.out.res.loose
   go_wp2
   exact some7_end U9.out (55) (56) (fun W' _ d=>by simp [results,Tryz.results66,go_sem,d])
  ·have hbz:(0:Int)<(bn:Int):=by omega
   have hkz:(0:Int)<(k:Int):=by omega
   have HBN:Hid (0<bn∧bn≤1048576):=⟨hb0,U9.out.tg.most⟩
   obtain ⟨kb,ob,hba⟩:∃ kb ob,ba=some ⟨kb,ob,none⟩:=by
    obtain ⟨k9,o9,_,_,_,_,e9,_⟩:=U9.out.tg.boxes.at (i:=0) (by rw [U9.out.tg.len];exact hb0)
    exact ⟨k9,o9,e9⟩
   subst hba
   have U0:Hid (N7 w W3.drew ao n cap kS hi y tm (some ⟨kb,ob,none⟩) bn bc ga gn gc S G):=U9.out.drew
   have q0:=U9.out.box.cells
   clear hb0
   go_wp2_with fail
   try rw [hkS]
   try rw [hW3]
   clear hW3 hkS q0
   go_cut [10] from 11 (fun s wx=>∃ (kx:Nat) (g:Int) (ma:Option Addr) (mn mc:Nat) (L:List M4),s=.pointer (some ⟨kx,0,none⟩)∧Q7 wx (w.heap.size+1) kx g ma mn mc L∧N7 w wx ao n cap kS hi y tm (some ⟨kb,ob,none⟩) bn bc ga gn gc S G)
   case first =>
    refine wp_region_noPanic ?_
    refine wp_region_held_drew (S:=(fun W=>W.cell? ⟨kS,2,none⟩=some (.slice (some ⟨kb,ob,none⟩) bn bc))) (by kernel_rfl) (U0.out.box.cells.2.2.1) (fun hHeld=>?_)
    refine tk 0 ?_
    refine tk 1 ?_
    refine tk 2 ?_
    refine tk 3 ?_
    refine tk 4 ?_
    refine tk 5 ?_
    clear hHeld
    refine wpAnyH_ready (rs:=[6,9]) (by kernel_rfl) (by simp) ?_
    refine rc (fun K hK=>?_) ?_
    ·go_simp
     refine (below4 (w.heap.size+1) ao n cap _ hn U0.out.cur U0.out.code bn (by have:=HBN.out;omega) (by have:=HBN.out;omega)).mono ?_
     rintro e w5 ⟨x,hx,rfl,hc2,hg2⟩
     have U0Q:=hid (U0.out.draw hg2 hc2)
     have HX:Hid (x<S.length):=by show _<_;rw [U0.out.tg.len];omega
     have hxi:(0:Int)≤(x:Int)∧(x:Int)<(bn:Int):=by omega
     clear hc2 hg2 hx
     go_wp2_with fail
     refine hK.out _ _ (U0Q.out.box.cells.2.2.1) (fun hHeld=>?_)
     clear hK K
     try simp only [Act.put,tp2,tp3,tp4]
     refine tk 7 ?_
     clear hHeld
     refine wpAnyH_ready (rs:=[8,9]) (by kernel_rfl) (by simp) ?_
     refine rc (fun K hK=>?_) ?_
     ·obtain ⟨k9,o9,ma,mc,ga9,gc9,e9,l9,c9,m9,g9,m0,_⟩:=U0Q.out.tg.boxes.at HX.out
      simp only [Option.some.injEq,Addr.mk.injEq] at e9
      obtain ⟨rfl,rfl,_⟩:=e9
      obtain ⟨⟨g,nm,t,b,nx,L,G9⟩,hz⟩:∃ z,S[x]'HX.out=z:=⟨_,rfl⟩
      have hsz:=U0.out.tg.sb _ (List.getElem_mem HX.out)
      rw [hz] at c9 m9 hsz
      dsimp only at c9 m9 hsz
      obtain ⟨mn,hmn⟩:∃ mn,L.length=mn:=⟨_,rfl⟩
      obtain ⟨gn9,hgv⟩:∃ v,G9.length=v:=⟨_,rfl⟩
      rw [hmn] at c9 hsz
      rw [hgv] at c9
      have M9:=hid m9
      have HMN:=hid hmn
      have HSZ:=hid hsz.2.1
      clear hmn hgv m9 g9 hz hsz
      clear l9
      have c9:=(show _∧_ from c9)
      go_simp
      clear c9
      refine hK.out _ _ (U0Q.out.box.cells.2.2.1) (fun hHeld=>?_)
      clear hK K
      try simp only [Act.put,tp2,tp3,tp4]
      clear hHeld
      refine ry 9 (fun K hK=>?_)
      go_simp
      have U0QA:=hid (U0Q.out.later (bpush (bre _) (.cells #[.int .i64 0,.string ⟨#[]⟩,.int .i64 0,.int .i64 0,.int .i64 0,.slice none 0 0,.slice none 0 0] 37)))
      have RA:Hid (Bx (w5.alloc (.cells #[.int .i64 0,.string ⟨#[]⟩,.int .i64 0,.int .i64 0,.int .i64 0,.slice none 0 0,.slice none 0 0] 37)) (w5.heap.size) 37 0 ⟨#[]⟩ 0 0 0 (.slice none 0 0) (.slice none 0 0)):=Bx.new w5 _ _ _ _ _ _ _ _
      have KA:Hid (w5.heap.size≠(w.heap.size+1)∧kS<w5.heap.size∧hi≤w5.heap.size):=by have h1:(w.heap.size+1)<w5.heap.size:=U0Q.out.cur.lt;have h2:kS<w5.heap.size:=U0Q.out.box.lt;have h3:hi≤w5.heap.size:=U0Q.out.tg.top;exact ⟨by omega,h2,h3⟩
      have fq:=RA.out.loose
      refine hK.out _ _ (U0QA.out.box.cells.2.2.1) (fun hHeld=>?_)
      clear hK K
      try simp only [Act.put,tp2,tp3,tp4]
      clear hHeld
      refine ry 10 (fun K hK=>?_)
      go_simp
      have LB:Hid (Q7 (w5.alloc (.cells #[.int .i64 g,.string nm,.int .i64 t,.int .i64 b,.int .i64 nx,.slice ma mn mc,.slice ga9 gn9 gc9] 37)) (w.heap.size+1) w5.heap.size g ma mn mc L∧N7 w (w5.alloc (.cells #[.int .i64 g,.string nm,.int .i64 t,.int .i64 b,.int .i64 nx,.slice ma mn mc,.slice ga9 gn9 gc9] 37)) ao n cap kS hi y tm (some ⟨kb,ob,none⟩) bn bc ga gn gc S G):=⟨⟨⟨nm,t,b,nx,_,Bx.new w5 _ _ _ _ _ _ _ _⟩,HMN.out,HSZ.out,⟨_,_,M9.out.later (bpush (bre _) _),.inr U0Q.out.tg.top,by omega⟩,KA.out.1⟩,U0Q.out.later (bpush (bre _) _)⟩
      refine hK.out _ _ (LB.out.2.box.cells.2.2.1) (fun hHeld=>?_)
      clear hK K
      try simp only [Act.put,tp2,tp3,tp4]
      refine wpAnyH_done (by kernel_rfl) ?_ _
      refine NoPanic.normal ?_
      try go_wp2_with fail
      go_meet
      exact ⟨_,_,_,_,_,_,rfl,LB.out.1,LB.out.2⟩
     refine rl (fun K hK=>?_)
     go_simp
     have U0QA:=hid (U0Q.out.later (bpush (bre _) (.cells #[.int .i64 0,.string ⟨#[]⟩,.int .i64 0,.int .i64 0,.int .i64 0,.slice none 0 0,.slice none 0 0] 37)))
     have RA:Hid (Bx (w5.alloc (.cells #[.int .i64 0,.string ⟨#[]⟩,.int .i64 0,.int .i64 0,.int .i64 0,.slice none 0 0,.slice none 0 0] 37)) (w5.heap.size) 37 0 ⟨#[]⟩ 0 0 0 (.slice none 0 0) (.slice none 0 0)):=Bx.new w5 _ _ _ _ _ _ _ _
     have KA:Hid (w5.heap.size≠(w.heap.size+1)∧kS<w5.heap.size∧hi≤w5.heap.size):=by have h1:(w.heap.size+1)<w5.heap.size:=U0Q.out.cur.lt;have h2:kS<w5.heap.size:=U0Q.out.box.lt;have h3:hi≤w5.heap.size:=U0Q.out.tg.top;exact ⟨by omega,h2,h3⟩
     have fq:=RA.out.loose
     refine hK.out _ _ (U0QA.out.box.cells.2.2.1) (fun hHeld=>?_)
     clear hK K
     try simp only [Act.put,tp2,tp3,tp4]
     clear hHeld
     refine ry 8 (fun K hK=>?_)
     obtain ⟨k9,o9,ma,mc,ga9,gc9,e9,l9,c9,m9,g9,m0,_⟩:=U0Q.out.tg.boxes.at HX.out
     simp only [Option.some.injEq,Addr.mk.injEq] at e9
     obtain ⟨rfl,rfl,_⟩:=e9
     obtain ⟨⟨g,nm,t,b,nx,L,G9⟩,hz⟩:∃ z,S[x]'HX.out=z:=⟨_,rfl⟩
     have hsz:=U0.out.tg.sb _ (List.getElem_mem HX.out)
     rw [hz] at c9 m9 hsz
     dsimp only at c9 m9 hsz
     obtain ⟨mn,hmn⟩:∃ mn,L.length=mn:=⟨_,rfl⟩
     obtain ⟨gn9,hgv⟩:∃ v,G9.length=v:=⟨_,rfl⟩
     rw [hmn] at c9 hsz
     rw [hgv] at c9
     have M9:=hid m9
     have HMN:=hid hmn
     have HSZ:=hid hsz.2.1
     clear hmn hgv m9 g9 hz hsz
     have c9:=C7.later c9 l9 (bpush (bre _) (.cells #[.int .i64 0,.string ⟨#[]⟩,.int .i64 0,.int .i64 0,.int .i64 0,.slice none 0 0,.slice none 0 0] 37))
     clear l9
     have c9:=(show _∧_ from c9)
     go_simp
     clear c9
     refine hK.out _ _ (U0QA.out.box.cells.2.2.1) (fun hHeld=>?_)
     clear hK K
     try simp only [Act.put,tp2,tp3,tp4]
     clear hHeld
     refine ry 10 (fun K hK=>?_)
     go_simp
     have LB:Hid (Q7 (w5.alloc (.cells #[.int .i64 g,.string nm,.int .i64 t,.int .i64 b,.int .i64 nx,.slice ma mn mc,.slice ga9 gn9 gc9] 37)) (w.heap.size+1) w5.heap.size g ma mn mc L∧N7 w (w5.alloc (.cells #[.int .i64 g,.string nm,.int .i64 t,.int .i64 b,.int .i64 nx,.slice ma mn mc,.slice ga9 gn9 gc9] 37)) ao n cap kS hi y tm (some ⟨kb,ob,none⟩) bn bc ga gn gc S G):=⟨⟨⟨nm,t,b,nx,_,Bx.new w5 _ _ _ _ _ _ _ _⟩,HMN.out,HSZ.out,⟨_,_,M9.out.later (bpush (bre _) _),.inr U0Q.out.tg.top,by omega⟩,KA.out.1⟩,U0Q.out.later (bpush (bre _) _)⟩
     refine hK.out _ _ (LB.out.2.box.cells.2.2.1) (fun hHeld=>?_)
     clear hK K
     try simp only [Act.put,tp2,tp3,tp4]
     refine wpAnyH_done (by kernel_rfl) ?_ _
     refine NoPanic.normal ?_
     try go_wp2_with fail
     go_meet
     exact ⟨_,_,_,_,_,_,rfl,LB.out.1,LB.out.2⟩
    refine rl (fun K hK=>?_)
    go_simp
    have U0A:=hid (U0.out.later (bpush (bre _) (.cells #[.int .i64 0,.string ⟨#[]⟩,.int .i64 0,.int .i64 0,.int .i64 0,.slice none 0 0,.slice none 0 0] 37)))
    have RA:Hid (Bx (W3.drew.alloc (.cells #[.int .i64 0,.string ⟨#[]⟩,.int .i64 0,.int .i64 0,.int .i64 0,.slice none 0 0,.slice none 0 0] 37)) (W3.heap.size) 37 0 ⟨#[]⟩ 0 0 0 (.slice none 0 0) (.slice none 0 0)):=Bx.new W3.drew _ _ _ _ _ _ _ _
    have KA:Hid (W3.heap.size≠(w.heap.size+1)∧kS<W3.heap.size∧hi≤W3.heap.size):=by have h1:(w.heap.size+1)<W3.heap.size:=U0.out.cur.lt;have h2:kS<W3.heap.size:=U0.out.box.lt;have h3:hi≤W3.heap.size:=U0.out.tg.top;exact ⟨by omega,h2,h3⟩
    refine hK.out _ _ (U0A.out.box.cells.2.2.1) (fun hHeld=>?_)
    clear hK K
    try simp only [Act.put,tp2,tp3,tp4]
    clear hHeld
    refine ry 6 (fun K hK=>?_)
    go_simp
    refine (below4 (w.heap.size+1) ao n cap _ hn U0A.out.cur U0A.out.code bn (by have:=HBN.out;omega) (by have:=HBN.out;omega)).mono ?_
    rintro e w5 ⟨x,hx,rfl,hc2,hg2⟩
    have U0AQ:=hid (U0A.out.draw hg2 hc2)
    have HX:Hid (x<S.length):=by show _<_;rw [U0.out.tg.len];omega
    have RQ:=hid (Bx.off7 RA.out hg2 KA.out.1)
    have fq:=RQ.out.loose
    have cq:=RQ.out.cells
    have hxi:(0:Int)≤(x:Int)∧(x:Int)<(bn:Int):=by omega
    clear hc2 hg2 hx
    go_wp2_with fail
    refine hK.out _ _ (U0AQ.out.box.cells.2.2.1) (fun hHeld=>?_)
    clear hK K
    try simp only [Act.put,tp2,tp3,tp4]
    refine tk 7 ?_
    clear hHeld
    refine ry 8 (fun K hK=>?_)
    obtain ⟨k9,o9,ma,mc,ga9,gc9,e9,l9,c9,m9,g9,m0,_⟩:=U0AQ.out.tg.boxes.at HX.out
    simp only [Option.some.injEq,Addr.mk.injEq] at e9
    obtain ⟨rfl,rfl,_⟩:=e9
    obtain ⟨⟨g,nm,t,b,nx,L,G9⟩,hz⟩:∃ z,S[x]'HX.out=z:=⟨_,rfl⟩
    have hsz:=U0.out.tg.sb _ (List.getElem_mem HX.out)
    rw [hz] at c9 m9 hsz
    dsimp only at c9 m9 hsz
    obtain ⟨mn,hmn⟩:∃ mn,L.length=mn:=⟨_,rfl⟩
    obtain ⟨gn9,hgv⟩:∃ v,G9.length=v:=⟨_,rfl⟩
    rw [hmn] at c9 hsz
    rw [hgv] at c9
    have M9:=hid m9
    have HMN:=hid hmn
    have HSZ:=hid hsz.2.1
    clear hmn hgv m9 g9 hz hsz
    clear l9
    have c9:=(show _∧_ from c9)
    go_simp
    clear c9
    refine hK.out _ _ (U0AQ.out.box.cells.2.2.1) (fun hHeld=>?_)
    clear hK K
    try simp only [Act.put,tp2,tp3,tp4]
    clear hHeld
    refine ry 10 (fun K hK=>?_)
    go_simp
    have hx7:=RQ.out.set7 g nm t b nx (.slice ma mn mc) (.slice ga9 gn9 gc9)
    have hg7:=set7_grown w5 W3.heap.size g nm t b nx (.slice ma mn mc) (.slice ga9 gn9 gc9)
    unfold set7 at hx7 hg7
    have LB:=hid (And.intro (show Q7 _ (w.heap.size+1) W3.heap.size g ma mn mc L from ⟨⟨nm,t,b,nx,_,hx7⟩,HMN.out,HSZ.out,⟨_,_,M9.out.same (Nat.le_trans M9.out.1 hg7.size) (fun j h1 h2=>hg7.block j (Nat.lt_of_lt_of_le h2 M9.out.1) (fun e=>by simp only [Option.some.injEq] at e;have:=KA.out.2.2;omega)),.inr KA.out.2.2,by omega⟩,KA.out.1⟩) (U0AQ.out.far hg7 KA.out.2.1))
    clear hx7 hg7
    refine hK.out _ _ (LB.out.2.box.cells.2.2.1) (fun hHeld=>?_)
    clear hK K
    try simp only [Act.put,tp2,tp3,tp4]
    refine wpAnyH_done (by kernel_rfl) ?_ _
    refine NoPanic.normal ?_
    try go_wp2_with fail
    go_meet
    exact ⟨_,_,_,_,_,_,rfl,LB.out.1,LB.out.2⟩
   case rest =>
    obtain ⟨kx,g,ma,mn,mc,L,rfl,hQ,hU⟩:=hcut
    have HQ:=hid hQ
    have U1s:=hid hU
    clear hQ hU U0 U9
    obtain ⟨nm,t,b,nx,gv,hbx⟩:=HQ.out.box
    have c1:=hbx.cells
    clear hbx
    rcases Nat.eq_zero_or_pos mn with hm0 | hm0
    ·have hmz:¬ (0:Int)<(mn:Int):=by omega
     clear hm0 hk0
     have q0:=U1s.out.box.cells
     have q1:=U1s.out.res.cells
     have f1:=U1s.out.res.loose
     go_wp2
     exact some7_end U1s.out (g) (56) (fun W' _ d=>by simp [results,Tryz.results66,go_sem,d])
    ·have hmz:(0:Int)<(mn:Int):=by omega
     have HMP:=hid hm0
     obtain ⟨km,om,hma⟩:∃ km om,ma=some ⟨km,om,none⟩:=by
      obtain ⟨lo,hj,hms,_⟩:=HQ.out.mails
      obtain ⟨k9,o9,_,_,e9,_⟩:=hms.2 0 (by rw [HQ.out.len];exact hm0)
      exact ⟨k9,o9,e9⟩
     subst hma
     rcases Nat.lt_or_ge 1 k with hk1 | hk1
     ·have hk2:(1:Int)<(k:Int):=by omega
      clear hm0 hk0 hk1
      go_wp2_with fail
      have U1:Hid (N7 w wc.drew ao n cap kS hi y tm (some ⟨kb,ob,none⟩) bn bc ga gn gc S G):=U1s.out.drew
      have HB3:Hid (wc.drew.cell? ⟨kx,5,none⟩=some (.slice (some ⟨km,om,none⟩) mn mc)):=c1.2.2.2.2.2.1
      refine wp_region_noPanic ?_
      refine wp_region_held_drew (S:=(fun W=>W.cell? ⟨kx,5,none⟩=some (.slice (some ⟨km,om,none⟩) mn mc))) (by kernel_rfl) (HB3.out) (fun hHeld=>?_)
      refine tk 0 ?_
      refine tk 1 ?_
      refine tk 2 ?_
      refine tk 3 ?_
      refine tk 4 ?_
      refine tk 5 ?_
      clear hHeld
      refine ry 6 (fun K hK=>?_)
      go_simp
      refine (below4 (w.heap.size+1) ao n cap _ hn U1.out.cur U1.out.code mn (by have:=HMP.out;omega) (by have:=HQ.out.most;omega)).mono ?_
      rintro e w6 ⟨x,hx,rfl,hc4,hg4⟩
      have U2:=hid (U1.out.draw hg4 hc4)
      have HX:Hid (x<L.length):=by show _<_;rw [HQ.out.len];omega
      have hxi:(0:Int)≤(x:Int)∧(x:Int)<(mn:Int):=by omega
      have HB4:Hid (w6.cell? ⟨kx,5,none⟩=some (.slice (some ⟨km,om,none⟩) mn mc)):=by obtain ⟨nm,t,b,nx,gv,hbx⟩:=HQ.out.box;exact (Bx.off7 (show Bx wc.drew _ _ _ _ _ _ _ _ _ from hbx) hg4 HQ.out.ne).cells.2.2.2.2.2.1
      have HM4:Hid (∃ lo hi,Ms lo hi w6 (some ⟨km,om,none⟩) L):=by obtain ⟨lo,hj,hms,_,hlo⟩:=HQ.out.mails;exact ⟨lo,hj,hms.same (Nat.le_trans hms.1 hg4.size) (fun j h1 h2=>hg4.block j (Nat.lt_of_lt_of_le h2 hms.1) (fun e=>by simp only [Option.some.injEq] at e;omega))⟩
      clear hc4 hg4 hx
      go_wp2_with fail
      refine hK.out _ _ (HB4.out) (fun hHeld=>?_)
      clear hK K
      try simp only [Act.put,tp2,tp3,tp4]
      refine tk 7 ?_
      refine tk 8 ?_
      clear hHeld
      refine ry 9 (fun K hK=>?_)
      obtain ⟨lo,hj,hms⟩:=HM4.out
      obtain ⟨k9,o9,fa,fc,e9,_,_,c9,_⟩:=hms.2 x HX.out
      simp only [Option.some.injEq,Addr.mk.injEq] at e9
      obtain ⟨rfl,rfl,_⟩:=e9
      obtain ⟨z,hz⟩:∃ z,(L[x]'HX.out).1=z:=⟨_,rfl⟩
      have c9:=c9.1
      rw [hz] at c9
      clear hms hz
      go_simp
      clear c9
      refine hK.out _ _ (HB4.out) (fun hHeld=>?_)
      clear hK K
      try simp only [Act.put,tp2,tp3,tp4]
      refine tk 10 ?_
      refine wpAnyH_done (by kernel_rfl) ?_ _
      refine NoPanic.normal ?_
      clear hHeld
      have q0:=U2.out.box.cells
      have q1:=U2.out.res.cells
      have f1:=U2.out.res.loose
      go_wp2
      exact some7_end U2.out (g) ((L[x]'HX.out).1) (fun W' _ d=>by simp [results,Tryz.results66,go_sem,d])
     ·have hk2:¬ (1:Int)<(k:Int):=by omega
      clear hm0 hk0 hk1
      have q0:=U1s.out.box.cells
      have q1:=U1s.out.res.cells
      have f1:=U1s.out.res.loose
      go_wp2
      exact some7_end U1s.out (g) (56) (fun W' _ d=>by simp [results,Tryz.results66,go_sem,d])
end Go.Proofs.YtkbecgcbheopnaaGreat
