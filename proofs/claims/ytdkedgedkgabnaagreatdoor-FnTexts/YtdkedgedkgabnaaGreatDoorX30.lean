/- Usv, Uta, Utc, MdrawC, MdrawD, MdrawE. -/
import Derived.Test.YtdkedgedkgabnaaGreatDoorX29
namespace Go.Proofs.YtdkedgedkgabnaaGreatDoor
open Go.RowKit Go.ChangeMaps
set_option maxHeartbeats 16000000
set_option maxRecDepth 100000
theorem l07Store_any (cb:Nat) (ao:Option Addr) (n cap:Nat) (w:World) (hn:n≤1048576) (hcur:Cur w cb ao n cap) (hcode:Code w cb ao n) :
  Calls Tryz.prog 75 #[.pointer (some ⟨cb,0,none⟩)] w fun e w'=>Sto7 cb ao n cap w e w':=by
 have hlt:=hcur.lt;have R0:=hid (Sx.new w 27 0 0 (.slice none 0 0) (.slice none 0 0));have C0:=hid (hcur.alloc (.cells #[.int .i64 0,.int .i64 0,.slice none 0 0,.slice none 0 0] 27));have HO:=hid hcode;have G0:=hid (World.grownBy_alloc w (.cells #[.int .i64 0,.int .i64 0,.slice none 0 0,.slice none 0 0] 27) (some cb));clear hcur hcode
 go_enter Tryz.func75,Tryz.ntmps75
 go_wp2_with fail
 refine (below4 cb ao n cap _ hn C0.out (HO.out.later G0.out) 12 (by decide) (by decide)).mono ?_;rintro e w1 ⟨x,hx,rfl,hc,hg⟩;have C1:=hid hc;have G1:=hid (only_trans G0.out hg);have R1:=hid (R0.out.off hg (by omega));clear hc hg C0 G0 R0
 go_wp2_with fail
 have hm:∃ m:Nat,m≤13∧(2+(x:Int))=(m:Int):=⟨2+x,by omega,by omega⟩;obtain ⟨m,hm,hme⟩:=hm
 try rw [hme]
 have HME:=hid hme;clear hme;refine (below4 cb ao n cap _ hn C1.out (HO.out.later G1.out) 2 (by decide) (by decide)).mono ?_;rintro e w2 ⟨z,hz,rfl,hc,hg⟩;have C2:=hid hc;have G2:=hid (only_trans G1.out hg);have R2:=hid (R1.out.off hg (by omega));clear hc hg C1 G1 R1
 go_wp2_with fail
 refine (specStoreNew_any _ _).mono ?_;rintro e w3 ⟨rfl,hb⟩;have C3:=hid (C2.out.later hb C2.out.lt);have G3:=hid (only_add G2.out (hb.mono G2.out.size));have R3:=hid (R2.out.later hb);clear hb C2 G2 R2
 go_wp2_with fail
 try rw [HME.out]
 refine (l07Use_any cb ao n cap (1+(z:Int)) m _ hn C3.out (HO.out.later G3.out) (by omega) hm).mono ?_;rintro e w4 ⟨hi,y,tm,ba,bn,bc,ga,gn,gc,S,G,rfl,hr,ht,hc,hg⟩;have C4:=hid hc;have G4:=hid (only_trans G3.out hg);have hR:=R3.out.off hg (by omega);have HS:Hid (w.heap.size+1≤w3.heap.size):=R3.out.lt;have HR:=hid hR;have HT:=hid ht;have HRR:=hid hr;have q1:=hR.cells;have f1:=hR.loose;clear hR ht hr hc hg C3 G3 R3 hx hz hm HME
 go_wp2
 have e2:=put4_grown w4 w.heap.size y tm (.slice ba bn bc) (.slice ga gn gc);have d1:=(HR.out.put4 y tm (.slice ba bn bc) (.slice ga gn gc)).cells
 have e3:w.grownBy (put4 w4 w.heap.size y tm (.slice ba bn bc) (.slice ga gn gc)) (some cb):=by
  unfold put4;exact gset (gset (gset (gset G4.out (Nat.le_refl _) _ _) (Nat.le_refl _) _ _) (Nat.le_refl _) _ _) (Nat.le_refl _) _ _
 have e4:Cur (put4 w4 w.heap.size y tm (.slice ba bn bc) (.slice ga gn gc)) cb ao n cap:=by
  unfold put4;exact (((C4.out.set (by omega)).set (by omega)).set (by omega)).set (by omega)
 have e5:=(HT.out.far e2 (.inl HS.out));unfold put4 at d1 e2 e3 e4 e5;refine bodyPost_ret (v:=.agg #[.int .i64 y,.int .i64 tm,.slice ba bn bc,.slice ga gn gc]) (by simp [results,Tryz.results75,go_sem,d1]) rfl ⟨hi,y,tm,ba,bn,bc,ga,gn,gc,S,G,rfl,HRR.out,?_,e4,e3⟩;exact e5.wide (by have:=HS.out;omega) (Nat.le_refl _) e5.top
theorem bs_row {W:World} {B lo:Nat} {a:Option Addr} {n c:Nat} {Y:List Y9} (row:W.ownsRow B 38 7 (.slice a n c) Y.length (yc Y)) (hlo:lo≤B) (hf:∀ y∈Y,Rdx lo W.heap.size W y) :
  n=Y.length∧(a=none→c=0)∧Bs lo W.heap.size W a (Y.map yd):=by
 rcases row.2 with ⟨h1,h2⟩ | ⟨g,cap,cur,h1,h2,h3,h4,h5,h6,h7⟩
 ·simp only [Value.slice.injEq] at h1
  obtain ⟨rfl,rfl,rfl⟩:=h1;refine ⟨h2.symm,fun _=>rfl,Nat.le_refl _,fun i hi=>?_⟩;rw [List.length_map] at hi
  omega
 simp only [Value.slice.injEq] at h1;obtain ⟨rfl,rfl,rfl⟩:=h1;refine ⟨rfl,fun e=>by simp at e,Nat.le_refl _,fun i hi=>?_⟩;rw [List.length_map] at hi;have e:=yc_at Y i hi;obtain ⟨ma,mc,ga,gc,hm,hg,r1,r2,r3,r4⟩:=hf Y[i] (List.getElem_mem hi);rw [hm,hg] at e;refine ⟨g,0,ma,mc,ga,gc,rfl,by omega,(Array.getElem?_eq_some_iff.1 h3).1,?_,?_,?_,r3,r4⟩
 ·simp only [Nat.zero_add,List.getElem_map]
  exact ⟨(row.cellAt _ (by omega)).trans e.1,(row.cellAt _ (by omega)).trans e.2.1,(row.cellAt _ (by omega)).trans e.2.2.1,(row.cellAt _ (by omega)).trans e.2.2.2.1,(row.cellAt _ (by omega)).trans e.2.2.2.2.1,(row.cellAt _ (by omega)).trans e.2.2.2.2.2.1,(row.cellAt _ (by omega)).trans e.2.2.2.2.2.2⟩
 ·simpa [yd] using r1
 simpa [yd] using r2
theorem OwX.rdx {W:World} {lo hi l:Nat} {y:Y9} (h:OwX W lo hi y.mv y.gv y.L y.G) (hl:l≤lo):Rdx l W.heap.size W y:=by
 obtain ⟨a,c,a',c',e1,e2,r1,r2,r3,r4⟩:=h.reads;exact ⟨a,c,a',c',e1,e2,r1.wide hl h.top (Nat.le_refl _),r2.wid hl h.top (Nat.le_refl _),r3,r4⟩
structure V7 (w W:World) (cb:Nat) (ao:Option Addr) (n cap kb hi:Nat) (y tm:Int) (ba:Option Addr) (bn bc:Nat) (ga:Option Addr) (gn gc:Nat) (S:List X7) (G:List Int):Prop where
 res:Sx W w.heap.size 27 0 0 (.slice none 0 0) (.slice none 0 0)
 box:Sx W kb 27 y tm (.slice ba bn bc) (.slice ga gn gc)
 tg:Tg W (w.heap.size+1) hi ba bn bc ga gn gc S G
 cur:Cur W cb ao n cap
 gr:w.grownBy W (some cb)
 lo:w.heap.size<kb
 hl:cb<w.heap.size
 tmb:-1≤tm∧tm≤100001
section
variable {w W W':World} {cb:Nat} {ao:Option Addr} {n cap kb hi:Nat} {y tm:Int} {ba:Option Addr} {bn bc:Nat} {ga:Option Addr} {gn gc:Nat} {S:List X7} {G:List Int}
theorem V7.drew (h:V7 w W cb ao n cap kb hi y tm ba bn bc ga gn gc S G):V7 w W.drew cb ao n cap kb hi y tm ba bn bc ga gn gc S G:=⟨h.res,h.box,h.tg.later (bdr (bre _)),h.cur,gdr h.gr,h.lo,h.hl,h.tmb⟩
theorem V7.draw (h:V7 w W cb ao n cap kb hi y tm ba bn bc ga gn gc S G) (hg:W.grownBy W' (some cb)) (hc:Cur W' cb ao n cap):V7 w W' cb ao n cap kb hi y tm ba bn bc ga gn gc S G:=by
 have h1:=h.lo;have h2:=h.hl;exact ⟨h.res.off hg (by omega),h.box.off hg (by omega),h.tg.far hg (.inl (by omega)),hc,only_trans h.gr hg,h.lo,h.hl,h.tmb⟩
theorem V7.turn {y' tm':Int} (h:V7 w W cb ao n cap kb hi y tm ba bn bc ga gn gc S G) (hk:hi≤kb) (hg:W.grownBy W' (some kb)) (hx:Sx W' kb 27 y' tm' (.slice ba bn bc) (.slice ga gn gc)) (ht:-1≤tm'∧tm'≤100001):V7 w W' cb ao n cap kb hi y' tm' ba bn bc ga gn gc S G:=by
 have h1:=h.lo;have h2:=h.hl;exact ⟨h.res.off hg (by omega),hx,h.tg.far hg (.inr hk),h.cur.grownr hg (fun e=>by simp only [Option.some.injEq] at e;omega),gr_new h.gr hg (fun j e=>by simp only [Option.some.injEq] at e;omega),h.lo,h.hl,ht⟩
theorem V7.push (h:V7 w W cb ao n cap kb hi y tm ba bn bc ga gn gc S G) (hb:Below W.heap.size W W'):V7 w W' cb ao n cap kb hi y tm ba bn bc ga gn gc S G :=
 ⟨h.res.later hb,h.box.later hb,h.tg.later hb,h.cur.later hb h.cur.lt,only_add h.gr (hb.mono h.gr.size),h.lo,h.hl,h.tmb⟩
end
def Any7 (cb:Nat) (ao:Option Addr) (n cap:Nat) (w:World) (e:Ending) (w':World):Prop :=
 ∃ (hi:Nat) (y tm:Int) (ba:Option Addr) (bn bc:Nat) (ga:Option Addr) (gn gc:Nat) (S:List X7) (G:List Int),e=.returned (.agg #[.int .i64 y,.int .i64 tm,.slice ba bn bc,.slice ga gn gc])∧(-1≤tm∧tm≤100001)∧Tg w' (w.heap.size+1) hi ba bn bc ga gn gc S G∧Cur w' cb ao n cap∧w.grownBy w' (some cb)
theorem any7_end {w W:World} {cb:Nat} {ao:Option Addr} {n cap kb hi:Nat} {y tm:Int} {ba:Option Addr} {bn bc:Nat} {ga:Option Addr} {gn gc:Nat} {S:List X7} {G:List Int} {a:Act} (h:V7 w W cb ao n cap kb hi y tm ba bn bc ga gn gc S G)
  (hres:∀ W',W'=((((W.setCell ⟨w.heap.size,0,none⟩ (.int .i64 y)).setCell ⟨w.heap.size,1,none⟩ (.int .i64 tm)).setCell ⟨w.heap.size,2,none⟩ (.slice ba bn bc)).setCell ⟨w.heap.size,3,none⟩ (.slice ga gn gc))→(W'.cell? ⟨w.heap.size,0,none⟩=some (.int .i64 y)∧W'.cell? ⟨w.heap.size,1,none⟩=some (.int .i64 tm)∧W'.cell? ⟨w.heap.size,2,none⟩=some (.slice ba bn bc)∧W'.cell? ⟨w.heap.size,3,none⟩=some (.slice ga gn gc))→(results Tryz.f26 a.tmps).run Tryz.prog W'=.ok (.agg #[.int .i64 y,.int .i64 tm,.slice ba bn bc,.slice ga gn gc]) W') (hdef:a.defers=[]:=by rfl) :
  bodyPost Tryz.prog Tryz.f26 (fun e w'=>Any7 cb ao n cap w e w') Exit.ret a ((((W.setCell ⟨w.heap.size,0,none⟩ (.int .i64 y)).setCell ⟨w.heap.size,1,none⟩ (.int .i64 tm)).setCell ⟨w.heap.size,2,none⟩ (.slice ba bn bc)).setCell ⟨w.heap.size,3,none⟩ (.slice ga gn gc)):=by
 have h1:=h.lo;have h2:=h.hl;have e2:=put4_grown W w.heap.size y tm (.slice ba bn bc) (.slice ga gn gc);have d1:=(h.res.put4 y tm (.slice ba bn bc) (.slice ga gn gc)).cells;unfold put4 at d1 e2;exact bodyPost_ret (hres _ rfl d1) hdef ⟨hi,y,tm,ba,bn,bc,ga,gn,gc,S,G,rfl,h.tmb,h.tg.far e2 (.inl (Nat.lt_succ_self _)),h.cur.grownr e2 (fun e=>by simp only [Option.some.injEq] at e;omega),gr_new h.gr e2 (fun j e=>by simp only [Option.some.injEq] at e;omega)⟩
theorem any7_endD {w W:World} {cb:Nat} {ao:Option Addr} {n cap kb hi:Nat} {y tm:Int} {ba:Option Addr} {bn bc:Nat} {ga:Option Addr} {gn gc:Nat} {S:List X7} {G:List Int} {a:Act} (h:V7 w W cb ao n cap kb hi y tm ba bn bc ga gn gc S G)
  (hres:∀ W',W'=((((W.setCell ⟨w.heap.size,0,none⟩ (.int .i64 y)).setCell ⟨w.heap.size,1,none⟩ (.int .i64 tm)).setCell ⟨w.heap.size,2,none⟩ (.slice ba bn bc)).setCell ⟨w.heap.size,3,none⟩ (.slice ga gn gc)).drew→(W'.cell? ⟨w.heap.size,0,none⟩=some (.int .i64 y)∧W'.cell? ⟨w.heap.size,1,none⟩=some (.int .i64 tm)∧W'.cell? ⟨w.heap.size,2,none⟩=some (.slice ba bn bc)∧W'.cell? ⟨w.heap.size,3,none⟩=some (.slice ga gn gc))→(results Tryz.f26 a.tmps).run Tryz.prog W'=.ok (.agg #[.int .i64 y,.int .i64 tm,.slice ba bn bc,.slice ga gn gc]) W') (hdef:a.defers=[]:=by rfl) :
  bodyPost Tryz.prog Tryz.f26 (fun e w'=>Any7 cb ao n cap w e w') Exit.ret a ((((W.setCell ⟨w.heap.size,0,none⟩ (.int .i64 y)).setCell ⟨w.heap.size,1,none⟩ (.int .i64 tm)).setCell ⟨w.heap.size,2,none⟩ (.slice ba bn bc)).setCell ⟨w.heap.size,3,none⟩ (.slice ga gn gc)).drew:=by
 have h1:=h.lo;have h2:=h.hl;have e2:=put4_grown W w.heap.size y tm (.slice ba bn bc) (.slice ga gn gc);have d1:=(h.res.put4 y tm (.slice ba bn bc) (.slice ga gn gc)).cells;unfold put4 at d1 e2
 generalize ((((W.setCell ⟨w.heap.size,0,none⟩ (.int .i64 y)).setCell ⟨w.heap.size,1,none⟩ (.int .i64 tm)).setCell ⟨w.heap.size,2,none⟩ (.slice ba bn bc)).setCell ⟨w.heap.size,3,none⟩ (.slice ga gn gc))=X at d1 e2 hres ⊢
 exact bodyPost_ret (hres _ rfl d1) hdef ⟨hi,y,tm,ba,bn,bc,ga,gn,gc,S,G,rfl,h.tmb,(h.tg.far e2 (.inl (Nat.lt_succ_self _))).later (bdr (bre _)),(h.cur.grownr e2 (fun e=>by simp only [Option.some.injEq] at e;omega)).drew,gdr (gr_new h.gr e2 (fun j e=>by simp only [Option.some.injEq] at e;omega))⟩
section
variable {w v W W':World} {cb:Nat} {ao:Option Addr} {n cap kb hi B:Nat} {y tm:Int} {ba:Option Addr} {bn bc:Nat} {ga:Option Addr} {gn gc:Nat} {S:List X7} {G:List Int}
theorem V7.moreG {a7:Option Addr} {n7 c7:Nat} {x:Int} {o:Obj} (h:V7 w W cb ao n cap kb hi y tm ba bn bc ga gn gc S G) (hv:v.heap.size=kb) (hvW:Below v.heap.size v W) (ho:OwT v B (.slice ba bn bc) (.slice ga gn gc) S G) (hB:w.heap.size<B) (hg1:gn≤100)
  (row:OwI W' B (.slice a7 n7 c7) (G++[x])) (hg:(W.alloc o).grownBy W' (Value.slice ga gn gc).ownBlock) (hl:∀ j,(Value.slice a7 n7 c7).ownBlock=some j→(Value.slice ga gn gc).ownBlock=some j∨W.heap.size<j) :
  ∃ hj,V7 w (W'.setCell ⟨kb,3,none⟩ (.slice a7 n7 c7)) cb ao n cap kb hj y tm ba bn bc a7 n7 c7 S (G++[x]):=by
 have h1:=h.lo;have h2:=h.hl;have h3:=h.box.lt;obtain ⟨Y,hY,hs,hi',hd,hf⟩:=ho.own
 have hgb:∀ j,(Value.slice ga gn gc).ownBlock=some j→B≤j∧j<kb:=fun j hj=>by rw [← hv];exact World.ownsRow.lt hi' j hj
 have hk3:W'.grownBy (W'.setCell ⟨kb,3,none⟩ (.slice a7 n7 c7)) (some kb):=wst (wre _ _) _ _;have hsz:W.heap.size≤W'.heap.size:=Nat.le_trans (World.grownBy_alloc W o none).size hg.size;have hW:∀ j,j<W.heap.size→(Value.slice ga gn gc).ownBlock≠some j→W'.heap[j]?=W.heap[j]?:=fun j hj hne =>
  (hg.block j (Nat.lt_of_lt_of_le hj (World.grownBy_alloc W o none).size) (fun e=>hne e.symm)).trans (Below.heap_alloc _ _ _ hj)
 have hV:∀ j,j<kb→(Value.slice ga gn gc).ownBlock≠some j→(W'.setCell ⟨kb,3,none⟩ (.slice a7 n7 c7)).heap[j]?=v.heap[j]?:=fun j hj hne =>
  ((hk3.block j (by omega) (fun e=>by simp only [Option.some.injEq] at e;omega)).trans (hW j (by omega) hne)).trans (hvW.block j (by omega))
 have hkb:Sx W' kb 27 y tm (.slice ba bn bc) (.slice ga gn gc):=(hW kb h3 (fun e=>by have:=(hgb kb e).2;omega)).trans h.box;have hs2:OwS (W'.setCell ⟨kb,3,none⟩ (.slice a7 n7 c7)) B (.slice ba bn bc) Y:=hs.kept (by have:=hvW.size;have:=hk3.size;omega) (fun j hj=>hV j (by rw [← hv];exact (hs.row.lt j hj).2) (fun e=>hd j e hj)) (fun y hy j j1 j2=>hV j (by have:=(hs.each y hy).1.top;omega) (fun e=>by have:=hf y hy j e;omega))
 have hi2:OwI (W'.setCell ⟨kb,3,none⟩ (.slice a7 n7 c7)) B (.slice a7 n7 c7) (G++[x]):=World.ownsRow.kept row hk3 (by
   cases hq:(Value.slice a7 n7 c7).ownBlock with
   | none=>exact Or.inl rfl
   | some j=>exact Or.inr (fun e=>by
       simp only [Option.some.injEq] at e
       subst e
       rcases hl _ hq with hq | hq
       · have:=(hgb _ hq).2;omega
       · omega))
 have hb2:=hs2.bs;have ht2:=OwI.is hi2;obtain ⟨a9,c9,e9,e8⟩:=OwI.shape hi2;simp only [Value.slice.injEq] at e9;rw [hY] at hb2
 have hcur:Cur W' cb ao n cap:=by
  obtain ⟨i,z,c1,c2⟩:=h.cur;exact ⟨i,z,c1,(hW cb h.cur.lt (fun e=>by have:=(hgb cb e).1;omega)).trans c2⟩
 have hgr:w.grownBy W' (some cb):=by
  have hwa:=gal h.gr o;exact gr_new hwa hg (fun j e=>by have:=(hgb j e).1;omega)
 refine ⟨_,(show Sx W' w.heap.size 27 0 0 (.slice none 0 0) (.slice none 0 0) from (hW w.heap.size h.res.lt (fun e=>by have:=(hgb _ e).1;omega)).trans h.res).off hk3 (by omega),hkb.s3 _,⟨h.tg.len,h.tg.most,h.tg.sb,hb2.2.wide (by omega) (Nat.le_refl _) (Nat.le_refl _),h.tg.b0,ht2.1.symm,?_,ht2.2.wid (by omega) (Nat.le_refl _) (Nat.le_refl _),?_⟩,hcur.grownr hk3 (fun e=>by simp only [Option.some.injEq] at e;omega),gr_new hgr hk3 (fun j e=>by simp only [Option.some.injEq] at e;omega),h.lo,h.hl,h.tmb⟩
 ·have:=h.tg.glen
  rw [ht2.1,List.length_append]
  simp
  omega
 intro e;rw [e9.2.2];exact e8 (by rw [← e9.1];exact e)
theorem V7.put0 {g0:Nat} {g:Int} {nm:ByteArray} {t b nx:Int} {ma:Option Addr} {mn mc:Nat} {ha:Option Addr} {hn hc:Nat} {L:List M4} {H:List Int} {lo9 hi9:Nat} (h:V7 w W cb ao n cap kb hi y tm (some ⟨g0,0,none⟩) bn bc ga gn gc S G) (hv:v.heap.size=kb) (hvW:v.grownBy W (some cb)) (ho:OwT v B (.slice (some ⟨g0,0,none⟩) bn bc) (.slice ga gn gc) S G) (hB:w.heap.size<B)
  (hb:Bg W lo9 hi9 nm ma mn mc ha hn hc L H) (h9:kb<lo9) (h0:0<bn) :
  ∃ hj S',V7 w (((((((W.setCell ⟨g0,0,none⟩ (.int .i64 g)).setCell ⟨g0,1,none⟩ (.string nm)).setCell ⟨g0,2,none⟩ (.int .i64 t)).setCell ⟨g0,3,none⟩ (.int .i64 b)).setCell ⟨g0,4,none⟩ (.int .i64 nx)).setCell ⟨g0,5,none⟩ (.slice ma mn mc)).setCell ⟨g0,6,none⟩ (.slice ha hn hc)) cb ao n cap kb hj y tm (some ⟨g0,0,none⟩) bn bc ga gn gc S' G:=by
 have h1:=h.lo;have h2:=h.hl;obtain ⟨Y,hY,hs,hi',hd,hf⟩:=ho.own;have hs3:=hs.grown hvW (by omega);have hi3:=OwI.grown hi' hvW (by omega);obtain rfl:=hs3.bs.1;obtain ⟨y0,hy0⟩:∃ y0:Y9,y0=⟨g,nm,t,b,nx,.slice ma mn mc,.slice ha hn hc,L,H,lo9,hi9⟩:=⟨_,rfl⟩;have hg:=put7_grown W g0 (0*7) y0
 have hg0:B≤g0∧g0<kb:=by rw [← hv];exact World.ownsRow.lt hs.row g0 rfl
 have k1:=(World.ownsRow.stored hs3.row (0*7) (.int .i64 y0.g)).1;have k2:=(World.ownsRow.stored k1 (0*7+1) (.string y0.nm)).1;have k3:=(World.ownsRow.stored k2 (0*7+2) (.int .i64 y0.t)).1;have k4:=(World.ownsRow.stored k3 (0*7+3) (.int .i64 y0.b)).1;have k5:=(World.ownsRow.stored k4 (0*7+4) (.int .i64 y0.nx)).1;have k6:=(World.ownsRow.stored k5 (0*7+5) y0.mv).1;have k7:=(World.ownsRow.stored k6 (0*7+6) y0.gv).1;rw [yc_set Y 0 y0 (by omega)] at k7
 have row:(put7 W g0 (0*7) y0).ownsRow B 38 7 (.slice (some ⟨g0,0,none⟩) Y.length bc) (Y.set 0 y0).length (yc (Y.set 0 y0)):=by rw [List.length_set];exact k7
 have hrd:∀ z∈Y.set 0 y0,Rdx (w.heap.size+1) (put7 W g0 (0*7) y0).heap.size (put7 W g0 (0*7) y0) z:=by
  intro z hz
  rcases mem_set hz with hz | rfl
  ·have hx:=hs3.each z hz
   have hoff:=hs3.off z hz g0 rfl;exact (hx.1.same (Nat.le_trans hx.1.top hg.size) (fun j j1 j2=>hg.block j (Nat.lt_of_lt_of_le j2 hx.1.top) (fun e=>by simp only [Option.some.injEq] at e;omega))).rdx (by omega)
  have hb':=hb.far hg (.inl (by omega));subst hy0;exact ⟨ma,mc,ha,hc,by rw [hb.len],by rw [hb.glen],hb'.mails.wide (by omega) hb'.mails.1 (Nat.le_refl _),hb'.gone.wid (by omega) hb'.mails.1 (Nat.le_refl _),hb.m0,hb.g0⟩
 obtain ⟨q1,q2,q3⟩:=bs_row row (by omega) hrd
 have hgn:OwI (put7 W g0 (0*7) y0) B (.slice ga gn gc) G:=World.ownsRow.kept hi3 hg (by
   cases hq:(Value.slice ga gn gc).ownBlock with
   | none=>exact Or.inl rfl
   | some j=>exact Or.inr (fun e=>by simp only [Option.some.injEq] at e;subst e;exact hd _ hq rfl))
 have hgi:=OwI.is hgn
 have hsb:Sb ((Y.set 0 y0).map yd):=by
  intro z hz;obtain ⟨z',hz',rfl⟩:=List.mem_map.1 hz
  rcases mem_set hz' with hz' | rfl
  ·exact h.tg.sb _ (by rw [← hY];exact List.mem_map_of_mem hz')
  subst hy0;exact ⟨by show nm.size≤_;have:=hb.nmz;omega,by show L.length≤_;have:=hb.len;have:=hb.most;omega,hb.sm,by show H.length≤_;have:=hb.glen;have:=hb.gmost;omega⟩
 have hfin:V7 w (put7 W g0 (0*7) y0) cb ao n cap kb (put7 W g0 (0*7) y0).heap.size y tm (some ⟨g0,0,none⟩) Y.length bc ga gn gc ((Y.set 0 y0).map yd) G :=
  ⟨h.res.off hg (by omega),h.box.off hg (by omega),⟨by rw [List.length_map];exact q1.symm,h.tg.most,hsb,q3,q2,h.tg.glen,h.tg.gmost,hgi.2.wid (by omega) (Nat.le_refl _) (Nat.le_refl _),h.tg.g0⟩,h.cur.grownr hg (fun e=>by simp only [Option.some.injEq] at e;omega),gr_new h.gr hg (fun j e=>by simp only [Option.some.injEq] at e;omega),h.lo,h.hl,h.tmb⟩
 subst hy0;exact ⟨_,_,hfin⟩
theorem V7.name1 {g0:Nat} {nm:ByteArray} (h:V7 w W cb ao n cap kb hi y tm (some ⟨g0,0,none⟩) bn bc ga gn gc S G) (hv:v.heap.size=kb) (hvW:Below v.heap.size v W) (ho:OwT v B (.slice (some ⟨g0,0,none⟩) bn bc) (.slice ga gn gc) S G) (hB:w.heap.size<B) (hnm:nm.size≤1048576) (h0:1<bn) :
  ∃ hj S',V7 w (W.setCell ⟨g0,8,none⟩ (.string nm)) cb ao n cap kb hj y tm (some ⟨g0,0,none⟩) bn bc ga gn gc S' G:=by
 have h1:=h.lo;have h2:=h.hl
 have hg0:B≤g0∧g0<kb:=by
  obtain ⟨Y,hY,hs,_⟩:=ho.own;rw [← hv];exact World.ownsRow.lt hs.row g0 rfl
 have hlen:=h.tg.len;have ho2:=(ho.later hvW).name 1 (by omega) nm rfl;have hg:W.grownBy (W.setCell ⟨g0,1*7+1,none⟩ (.string nm)) (some g0):=wst (wre _ _) _ _;obtain ⟨r1,r2,r3,r4⟩:=ho2.reads;refine ⟨_,_,h.res.off hg (by omega),h.box.off hg (by omega),⟨r1.symm,h.tg.most,?_,r3.wide (by omega) (Nat.le_refl _) (Nat.le_refl _),h.tg.b0,h.tg.glen,h.tg.gmost,r4.wid (by omega) (Nat.le_refl _) (Nat.le_refl _),h.tg.g0⟩,h.cur.grownr hg (fun e=>by simp only [Option.some.injEq] at e;omega),gr_new h.gr hg (fun j e=>by simp only [Option.some.injEq] at e;omega),h.lo,h.hl,h.tmb⟩;intro z hz
 rcases mem_set hz with hz | rfl
 ·exact h.tg.sb z hz
 have h5:=h.tg.sb _ (List.getElem_mem (show 1<S.length by omega));exact ⟨hnm,h5.2⟩
end
theorem own_here {W:World} {B bn bc:Nat} {ba:Option Addr} {gv:Value} {S:List X7} {G:List Int} (h:OwT W B (.slice ba bn bc) gv S G) (hb:0<bn):∃ g0,ba=some ⟨g0,0,none⟩:=by
 obtain ⟨Y,_,hs,_⟩:=h.own
 rcases hs.row.2 with ⟨h1,h2⟩ | ⟨g,cap,cur,h1,_⟩
 ·simp only [Value.slice.injEq] at h1
  omega
 simp only [Value.slice.injEq] at h1;exact ⟨g,h1.1⟩
theorem own_names {W:World} {B g0 bn bc:Nat} {gv:Value} {S:List X7} {G:List Int} (h:OwT W B (.slice (some ⟨g0,0,none⟩) bn bc) gv S G) (hs:Sb S) (hb:1<bn):∃ nm:ByteArray,nm.size≤1048576∧W.cell? ⟨g0,1,none⟩=some (.string nm)∧(∃ nm',W.cell? ⟨g0,8,none⟩=some (.string nm'))∧W.frozen? ⟨g0,8,none⟩=false:=by
 obtain ⟨Y,hY,hw,_⟩:=h.own;obtain rfl:=hw.bs.1;have h0:=(hw.spot 0 (by omega)).1;have h1:=hw.spot 1 hb;refine ⟨Y[0].nm,?_,h0.2.1,⟨Y[1].nm,h1.1.2.1⟩,h1.2 8⟩;exact (hs (yd Y[0]) (by rw [← hY];exact List.mem_map_of_mem (List.getElem_mem _))).1
theorem pre3 {w v W W':World} {kb B:Nat} {y tm:Int} {bv gv:Value} {S:List X7} {G:List Int} {o:Obj} (hv:v.heap.size=kb) (hx:Sx W kb 27 y tm bv gv) (_:w.heap.size<B) (ho:OwT v B bv gv S G) (hg:(W.alloc o).grownBy W' gv.ownBlock):Sx W' kb 27 y tm bv gv:=by
 obtain ⟨_,_,_,hi,_⟩:=ho.own;exact (hx.later (bpush (bre _) o)).grown hg (fun e=>by have:=(World.ownsRow.lt hi kb e.symm).2;omega)
theorem tmodFour (x:Nat):∃ r:Nat,(x:Int).tmod 4=(r:Int)∧r<4:=⟨x % 4,by rw [Int.tmod_eq_emod_of_nonneg (by omega)];omega,by omega⟩
theorem times4 (w:World) (r:Nat) (h:r<4):∃ z:Int,(-1≤z∧z≤100001)∧(w.alloc (.cells #[.int .i64 (-1),.int .i64 0,.int .i64 100000,.int .i64 100001] 3)).cell? ⟨w.heap.size,r,none⟩=some (.int .i64 z):=by
 have h4:r=0∨r=1∨r=2∨r=3:=by omega
 rcases h4 with rfl | rfl | rfl | rfl
 ·exact ⟨-1,by decide,cell_of_row _ _ 0 _ _ _ (heap_alloc_new w _)⟩
 ·exact ⟨0,by decide,cell_of_row _ _ 1 _ _ _ (heap_alloc_new w _)⟩
 ·exact ⟨100000,by decide,cell_of_row _ _ 2 _ _ _ (heap_alloc_new w _)⟩
 exact ⟨100001,by decide,cell_of_row _ _ 3 _ _ _ (heap_alloc_new w _)⟩
theorem row0 {W:World} {B g0 bn bc:Nat} {gv:Value} {S:List X7} {G:List Int} (h:OwT W B (.slice (some ⟨g0,0,none⟩) bn bc) gv S G) (hb:0<bn):∃ (g:Int) (nm:ByteArray) (t b nx:Int) (ma:Option Addr) (mn mc:Nat) (ga:Option Addr) (gn gc:Nat),(W.cell? ⟨g0,0,none⟩=some (.int .i64 g)∧W.cell? ⟨g0,1,none⟩=some (.string nm)∧W.cell? ⟨g0,2,none⟩=some (.int .i64 t)∧W.cell? ⟨g0,3,none⟩=some (.int .i64 b)∧W.cell? ⟨g0,4,none⟩=some (.int .i64 nx)∧W.cell? ⟨g0,5,none⟩=some (.slice ma mn mc)∧W.cell? ⟨g0,6,none⟩=some (.slice ga gn gc))∧(W.frozen? ⟨g0,0,none⟩=false∧W.frozen? ⟨g0,1,none⟩=false∧W.frozen? ⟨g0,2,none⟩=false∧W.frozen? ⟨g0,3,none⟩=false∧W.frozen? ⟨g0,4,none⟩=false∧W.frozen? ⟨g0,5,none⟩=false∧W.frozen? ⟨g0,6,none⟩=false):=by
 obtain ⟨Y,_,hs,_⟩:=h.own;obtain rfl:=hs.bs.1;have hz:=(hs.spot 0 hb).2;have hc:=(hs.spot 0 hb).1;obtain ⟨a,c,a',c',e1,e2,_⟩:=(hs.each Y[0] (List.getElem_mem _)).1.reads;rw [e1,e2] at hc;exact ⟨_,_,_,_,_,_,_,_,_,_,_,hc,hz 0,hz 1,hz 2,hz 3,hz 4,hz 5,hz 6⟩
theorem l07Any_any (cb:Nat) (ao:Option Addr) (n cap:Nat) (w:World) (hn:n≤1048576) (hcur:Cur w cb ao n cap) (hcode:Code w cb ao n) :
  Calls Tryz.prog 26 #[.pointer (some ⟨cb,0,none⟩)] w fun e w'=>Any7 cb ao n cap w e w':=by
 have hlt:=hcur.lt;have R0:=hid (Sx.new w 27 0 0 (.slice none 0 0) (.slice none 0 0));have C0:=hid (hcur.alloc (.cells #[.int .i64 0,.int .i64 0,.slice none 0 0,.slice none 0 0] 27));have HO:=hid hcode;have G0:=hid (World.grownBy_alloc w (.cells #[.int .i64 0,.int .i64 0,.slice none 0 0,.slice none 0 0] 27) (some cb));clear hcur hcode
 go_enter Tryz.func26,Tryz.ntmps26
 go_wp2_with fail
 refine (below4 cb ao n cap _ hn C0.out (HO.out.later G0.out) 14 (by decide) (by decide)).mono ?_;rintro e w1 ⟨k,hk,rfl,hc,hg⟩;have C1:=hid hc;have G1:=hid (only_trans G0.out hg);have R1:=hid (R0.out.off hg (by omega));clear hc hg R0 C0 G0
 go_wp2_with fail
 refine (below4 cb ao n cap _ hn C1.out (HO.out.later G1.out) 60 (by decide) (by decide)).mono ?_;rintro e w2 ⟨x,hx,rfl,hc,hg⟩;have C2:=hid hc;have G2:=hid (only_trans G1.out hg);have R2:=hid (R1.out.off hg (by omega));clear hc hg R1 C1 G1 hx
 go_wp2_with fail
 refine (l07Store_any cb ao n cap _ hn C2.out (HO.out.later G2.out)).mono ?_;rintro e w3 ⟨hi3,y,tm,ba,bn,bc,ga,gn,gc,S,G,rfl,hr,ht,hc,hg⟩;have C3:=hid hc;have G3:=hid (only_trans G2.out hg);have R3:=hid (R2.out.off hg (by omega));have HT3:=hid ht;have HSB:=hid (sOk_sb hr.ok);clear hc hg R2 C2 G2 ht hr
 go_wp2_with fail
 refine (l07Copy_any _ _ _ _ y tm ba bn bc ga gn gc S G _ HT3.out.len HT3.out.most HT3.out.sb HT3.out.boxes HT3.out.glen HT3.out.gmost HT3.out.gone HT3.out.g0).mono ?_;rintro e v ⟨bv,gv,rfl,ho4,hb4⟩;obtain ⟨a,c,a',c',hv1,hv2⟩:=ho4.shape;rw [HT3.out.len] at hv1;rw [HT3.out.glen] at hv2;subst hv1;subst hv2;obtain ⟨B,hB⟩:∃ B,w3.heap.size=B:=⟨_,rfl⟩;rw [hB] at ho4
 have HBB:Hid (w.heap.size<B):=by rw [← hB];exact R3.out.lt
 have HB4:Hid (B≤v.heap.size):=by rw [← hB];exact hb4.size
 have OWV:=hid ho4;obtain ⟨kb,hkb⟩:∃ kb,v.heap.size=kb:=⟨_,rfl⟩;have HV:=hid hkb;obtain ⟨W4,hW4⟩:∃ W4,v.alloc (.cells #[.int .i64 y,.int .i64 tm,.slice a bn c,.slice a' gn c'] 27)=W4:=⟨_,rfl⟩
 have HVG:Hid (v.grownBy W4 (some cb)):=by rw [← hW4];exact World.grownBy_alloc _ _ _
 have HVW:Hid (Below v.heap.size v W4):=by rw [← hW4];exact bpush (bre _) _
 have T4:Hid (V7 w W4 cb ao n cap kb kb y tm a bn c a' gn c' S G):=by
  have h1:=HBB.out;have h2:=HB4.out;rw [hkb] at h2;refine ⟨?_,?_,?_,?_,?_,by omega,hlt,by have:=HSB.out.2.2.2;omega⟩
  ·rw [← hW4];exact (R3.out.later hb4).later (bpush (bre _) _)
  ·rw [← hW4,← hkb];exact Sx.new _ _ _ _ _ _
  ·rw [← hkb]
   exact ((ho4.tg (by have:=HSB.out.1;omega) HT3.out.sb (by have:=HSB.out.2.2.1;omega)).later HVW.out).wide (by omega) (Nat.le_refl _) HVW.out.size
  ·rw [← hW4];exact (C3.out.later hb4 C3.out.lt).alloc _
  rw [← hW4];exact gal (only_add G3.out (hb4.mono G3.out.size)) _
 have HGL:Hid (G.length=gn∧gn≤100):=by have h1:=HT3.out.glen;have h2:=HSB.out.2.2.1;exact ⟨h1,by omega⟩
 have HNM:=hid HT3.out.sb;have HSL:=hid HT3.out.len;clear ho4 hb4 R3 C3 G3 HT3 hB
 have k6:k=0∨k=1∨k=2∨k=3∨k=4∨5≤k:=by omega
 clear hk
 rcases k6 with rfl | rfl | rfl | rfl | rfl | k6
 ·obtain ⟨r,hr4,_⟩:=tmodFour x
  have hs:W4.grownBy (W4.setCell ⟨kb,0,none⟩ (.int .i64 (r:Int))) (some kb):=wst (wre _ _) _ _;have NEW:=hid (T4.out.turn (Nat.le_refl _) hs (T4.out.box.s0 (r:Int)) T4.out.tmb);have q0:=T4.out.box.cells;have f0:=T4.out.box.loose;have q2:=NEW.out.box.cells;have q1:=NEW.out.res.cells;have f1:=NEW.out.res.loose;clear hs
  go_wp2
  exact any7_end NEW.out (fun W' _ d=>by simp [results,Tryz.results26,go_sem,d])
 ·obtain ⟨r,hr4,hr5⟩:=tmodFour x
  obtain ⟨z,hz,hcz⟩:=times4 W4 r hr5
  have hI:(0:Int)≤(r:Int)∧(r:Int)<4:=by omega
  have TP:=hid (T4.out.push (bpush (bre _) (.cells #[.int .i64 (-1),.int .i64 0,.int .i64 100000,.int .i64 100001] 3)));have hs:(W4.alloc (.cells #[.int .i64 (-1),.int .i64 0,.int .i64 100000,.int .i64 100001] 3)).grownBy ((W4.alloc (.cells #[.int .i64 (-1),.int .i64 0,.int .i64 100000,.int .i64 100001] 3)).setCell ⟨kb,1,none⟩ (.int .i64 z)) (some kb):=wst (wre _ _) _ _;have NEW:=hid (TP.out.turn (Nat.le_refl _) hs (TP.out.box.s1 z) hz);have q0:=TP.out.box.cells;have f0:=TP.out.box.loose;have q2:=NEW.out.box.cells;have q1:=NEW.out.res.cells;have f1:=NEW.out.res.loose;clear hs hr5 hz
  go_wp2
  exact any7_end NEW.out (fun W' _ d=>by simp [results,Tryz.results26,go_sem,d])
 ·rcases Nat.eq_zero_or_pos bn with hb0 | hb0
  ·have hbz:¬ (0:Int)<(bn:Int):=by omega
   clear hb0;have q0:=T4.out.box.cells;have f0:=T4.out.box.loose;have q1:=T4.out.res.cells;have f1:=T4.out.res.loose
   go_wp2
   exact any7_end T4.out (fun W' _ d=>by simp [results,Tryz.results26,go_sem,d])
  have hbz:(0:Int)<(bn:Int):=by omega
  have HBP:=hid hb0;obtain ⟨g0,hg0⟩:=own_here OWV.out hb0;subst hg0;have T4d:Hid (V7 w W4.drew cb ao n cap kb kb y tm (some ⟨g0,0,none⟩) bn c a' gn c' S G):=T4.out.drew;have q0:=T4.out.box.cells
  have hI:(0:Int)≤0∧(0:Int)<(bn:Int):=by omega
  clear hb0
  go_wp2_with fail
  try rw [hkb]
  try rw [hW4]
  clear hW4 hkb q0;refine wp_region_noPanic ?_;refine wp_region_held_drew (S:=(fun W=>W.cell? ⟨kb,2,none⟩=some (.slice (some ⟨g0,0,none⟩) bn c))) (by kernel_rfl) (T4d.out.box.cells.2.2.1) (fun hHeld=>?_);refine tk 0 ?_;refine tk 1 ?_;refine tk 2 ?_;clear hHeld;refine ry 3 (fun K hK=>?_);go_simp;refine (l06Any_any cb ao n cap _ hn T4d.out.cur (HO.out.later T4d.out.gr)).mono ?_;rintro e w5 ⟨g,nm,t,b,nx,ma,mn,mc,ha,hn9,hc9,L,H,hi9,rfl,hbg,hc,hg⟩;have T5:=hid (T4d.out.draw hg hc);have G5:Hid (v.grownBy w5 (some cb)):=only_trans (gdr HVG.out) hg;obtain ⟨hj,S',hN⟩:=T5.out.put0 (g:=g) (t:=t) (b:=b) (nx:=nx) HV.out G5.out OWV.out HBB.out hbg (by have:=T4.out.box.lt;simp only [heap_drew];omega) HBP.out;have NEW:=hid hN;obtain ⟨g8,nm8,t8,b8,nx8,ma8,mn8,mc8,ga8,gn8,gc8,c5,f5⟩:=row0 (OWV.out.grown G5.out (by have:=HBB.out;omega)) HBP.out;clear hbg hc hg hN
  go_wp2_with fail
  refine hK.out _ _ (T5.out.box.cells.2.2.1) (fun hHeld=>?_);clear hK K;try simp only [Act.put,tq]
  refine tk 4 ?_;clear hHeld;refine ry 5 (fun K hK=>?_);go_simp;refine hK.out _ _ (NEW.out.box.cells.2.2.1) (fun hHeld=>?_);clear hK K;try simp only [Act.put,tq]
  refine dn ?_;clear hHeld c5 f5;have q0:=NEW.out.box.cells;have q1:=NEW.out.res.cells;have f1:=NEW.out.res.loose
  go_wp2
  exact any7_end NEW.out (fun W' _ d=>by simp [results,Tryz.results26,go_sem,d])
 ·have HOI:Hid (OwI W4 B (.slice a' gn c') G):=by obtain ⟨_,_,_,h3,_⟩:=OWV.out.own;exact own_later h3 HVW.out
  have hsz4:B≤W4.heap.size:=Nat.le_trans HB4.out HVW.out.size;have q0:=T4.out.box.cells
  go_wp2_with (at_builtin;refine wpList_append_ig W4 rfl (.tmp 41) (.tmp 43) rfl B _ G (by rfl) HOI.out (x:Int) (by rfl) (by have h1:=HGL.out;omega) hsz4 ?_;intro v7 w7 hrow7 hg7 hl7;obtain ⟨a7,n7,c7,rfl⟩:=row_slice hrow7;obtain ⟨hj,hN⟩:=T4.out.moreG HV.out HVW.out OWV.out HBB.out HGL.out.2 hrow7 hg7 hl7;have NEW:=hid hN;have b7:=pre3 HV.out T4.out.box HBB.out OWV.out hg7;have q7:=b7.cells;have f7:=b7.loose;have q8:=NEW.out.box.cells;have q1:=NEW.out.res.cells;have f1:=NEW.out.res.loose;clear b7 hN hrow7 hg7 hl7 q0)
  exact any7_end NEW.out (fun W' _ d=>by simp [results,Tryz.results26,go_sem,d])
 ·rcases Nat.lt_or_ge 1 bn with hb0 | hb0
  ·have hbz:(1:Int)<(bn:Int):=by omega
   obtain ⟨g0,hg0⟩:=own_here OWV.out (by omega);subst hg0;obtain ⟨nm,hnm,hc0,⟨nm',hc1⟩,hf1⟩:=own_names (OWV.out.later HVW.out) HNM.out hb0;obtain ⟨hj,S',hN⟩:=T4.out.name1 (nm:=nm) HV.out HVW.out OWV.out HBB.out hnm hb0;have NEW:=hid hN
   have hI:(0:Int)≤0∧(0:Int)<(bn:Int):=by omega
   have hI1:(0:Int)≤1∧(1:Int)<(bn:Int):=by omega
   have q0:=T4.out.box.cells;have f0:=T4.out.box.loose;have q1:=T4.out.res.cells;have f1:=T4.out.res.loose;clear hb0 hN
   go_wp2_with fail
   try rw [hkb]
   try rw [hW4]
   clear hW4 hkb
   go_region
   clear q0 f0 q1 f1;have q0:=NEW.out.box.cells;have q1:=NEW.out.res.cells;have f1:=NEW.out.res.loose
   go_wp2
   exact any7_endD NEW.out (fun W' _ d=>by simp [results,Tryz.results26,go_sem,d])
  have hbz:¬ (1:Int)<(bn:Int):=by omega
  clear hb0;have q0:=T4.out.box.cells;have f0:=T4.out.box.loose;have q1:=T4.out.res.cells;have f1:=T4.out.res.loose
  go_wp2
  exact any7_end T4.out (fun W' _ d=>by simp [results,Tryz.results26,go_sem,d])
 have e0:((k:Int) == 0)=false:=by simp;omega
 have e1:((k:Int) == 1)=false:=by simp;omega
 have e2:((k:Int) == 2)=false:=by simp;omega
 have e3:((k:Int) == 3)=false:=by simp;omega
 have e4:((k:Int) == 4)=false:=by simp;omega
 clear k6;have q0:=T4.out.box.cells;have f0:=T4.out.box.loose;have q1:=T4.out.res.cells;have f1:=T4.out.res.loose
 go_wp2
 exact any7_end T4.out (fun W' _ d=>by simp [results,Tryz.results26,go_sem,d])
def Tz (W:World) (ba:Option Addr) (bn bc:Nat) (ga:Option Addr) (gn gc:Nat) (S:List X7) (G:List Int):Prop:=∃ lo hi,Tg W lo hi ba bn bc ga gn gc S G
section
variable {W W':World} {lo hi:Nat} {ba:Option Addr} {bn bc:Nat} {ga:Option Addr} {gn gc:Nat} {S:List X7} {G:List Int}
theorem Tg.tz (h:Tg W lo hi ba bn bc ga gn gc S G):Tz W ba bn bc ga gn gc S G:=⟨lo,hi,h⟩
theorem Tz.later (h:Tz W ba bn bc ga gn gc S G) (hb:Below W.heap.size W W'):Tz W' ba bn bc ga gn gc S G:=by
 obtain ⟨lo,hi,h⟩:=h;exact ⟨lo,hi,h.later hb⟩
theorem Tz.len (h:Tz W ba bn bc ga gn gc S G):S.length=bn:=by obtain ⟨_,_,h⟩:=h;exact h.len
theorem Tz.most (h:Tz W ba bn bc ga gn gc S G):bn≤1048576:=by obtain ⟨_,_,h⟩:=h;exact h.most
theorem Tz.sb (h:Tz W ba bn bc ga gn gc S G):Sb S:=by obtain ⟨_,_,h⟩:=h;exact h.sb
theorem Tz.glen (h:Tz W ba bn bc ga gn gc S G):G.length=gn:=by obtain ⟨_,_,h⟩:=h;exact h.glen
theorem Tz.gmost (h:Tz W ba bn bc ga gn gc S G):gn≤1048576:=by obtain ⟨_,_,h⟩:=h;exact h.gmost
end
theorem dr_end {f:Func} {w W:World} {hi:Nat} {y tm:Int} {ba:Option Addr} {bn bc:Nat} {ga:Option Addr} {gn gc:Nat} {S:List X7} {G:List Int} {a:Act} {v:Value} {Q:Ending→World→Prop} (res:Sx W w.heap.size 27 0 0 (.slice none 0 0) (.slice none 0 0)) (tg:Tg W (w.heap.size+1) hi ba bn bc ga gn gc S G) (be:Below w.heap.size w W)
  (hQ:∀ W',Tz W' ba bn bc ga gn gc S G→Below w.heap.size w W'→Q (.returned v) W')
  (hres:∀ W',W'=((((W.setCell ⟨w.heap.size,0,none⟩ (.int .i64 y)).setCell ⟨w.heap.size,1,none⟩ (.int .i64 tm)).setCell ⟨w.heap.size,2,none⟩ (.slice ba bn bc)).setCell ⟨w.heap.size,3,none⟩ (.slice ga gn gc))→(W'.cell? ⟨w.heap.size,0,none⟩=some (.int .i64 y)∧W'.cell? ⟨w.heap.size,1,none⟩=some (.int .i64 tm)∧W'.cell? ⟨w.heap.size,2,none⟩=some (.slice ba bn bc)∧W'.cell? ⟨w.heap.size,3,none⟩=some (.slice ga gn gc))→(results f a.tmps).run Tryz.prog W'=.ok v W') (hdef:a.defers=[]:=by rfl) :
  bodyPost Tryz.prog f Q Exit.ret a ((((W.setCell ⟨w.heap.size,0,none⟩ (.int .i64 y)).setCell ⟨w.heap.size,1,none⟩ (.int .i64 tm)).setCell ⟨w.heap.size,2,none⟩ (.slice ba bn bc)).setCell ⟨w.heap.size,3,none⟩ (.slice ga gn gc)):=by
 have e2:=put4_grown W w.heap.size y tm (.slice ba bn bc) (.slice ga gn gc);have d1:=(res.put4 y tm (.slice ba bn bc) (.slice ga gn gc)).cells;unfold put4 at d1 e2;exact bodyPost_ret (hres _ rfl d1) hdef (hQ _ (tg.far e2 (.inl (Nat.lt_succ_self _))).tz (be.trans (only_below e2 (Nat.le_refl _) be.size)))
def Store7 (w:World) (e:Ending) (w':World):Prop:=∃ (y tm:Int) (ba:Option Addr) (bn bc:Nat) (ga:Option Addr) (gn gc:Nat) (S:List X7) (G:List Int),e=.returned (.agg #[.int .i64 y,.int .i64 tm,.slice ba bn bc,.slice ga gn gc])∧(-1≤tm∧tm≤100001)∧Tz w' ba bn bc ga gn gc S G∧Below w.heap.size w w'
theorem Code.low {w W:World} {cb n:Nat} {ao:Option Addr} (h:Code w w.heap.size ao n) (hb:Below w.heap.size w W) (hc:w.heap.size≤cb):Code W cb ao n:=by
 intro hn;obtain ⟨b,off,h1,h2,h3⟩:=h hn;refine ⟨b,off,h1,Nat.lt_of_lt_of_le h2 hc,fun j hj=>?_⟩;obtain ⟨z,hz,hc⟩:=h3 j hj;exact ⟨z,hz,(cell_same (p:=⟨b,_,none⟩) (hb.block b h2)).trans hc⟩
theorem Cur.below {w w':World} {B cb n cap:Nat} {ao:Option Addr} (h:Cur w cb ao n cap) (hb:Below B w w') (hB:cb<B):Cur w' cb ao n cap:=by
 obtain ⟨i,x,h1,h2⟩:=h;exact ⟨i,x,h1,(hb.block cb hB).trans h2⟩
theorem Dl.own {W:World} {B:Nat} {v:Value} {l:List R3} (h:Ow W B v l) (h4:l.length≤4):Dl W B v l:=by
 have hw:=h
 rcases h.2 with ⟨h1,h2⟩ | ⟨g,cap,cur,h1,h2,h3,h5,h6,h7,h8⟩
 ·subst h1
  exact ⟨none,0,by rw [h2],h4,by omega,fun _=>rfl,(Ow.rs hw).2,(fun x e=>by cases e)⟩
 subst h1;exact ⟨_,cap,rfl,h4,h5,(fun e=>by cases e),(Ow.rs hw).2,(fun x e=>by simp only [Option.some.injEq] at e;subst e;exact h2)⟩
theorem Dl.kept {W W':World} {B cb:Nat} {v:Value} {l:List R3} (h:Dl W B v l) (hg:W.grownBy W' (some cb)) (hc:cb<B):Dl W' B v l:=by
 obtain ⟨a,c,h1,h2,h3,h4,h5,h6⟩:=h;exact ⟨a,c,h1,h2,h3,h4,h5.grown hg (fun x e=>by have:=h6 x e;omega),h6⟩
theorem wrap_small (x:Int) (h1:-9223372036854775808≤x) (h2:x≤9223372036854775807):IntKind.i64.wrap x=x:=by rw [IntKind.wrap_i64];omega
theorem text1_any (cb:Nat) (ao:Option Addr) (n cap:Nat) (w:World) (hn:n≤1048576) (hcur:Cur w cb ao n cap) (hcode:Code w cb ao n) :
  Calls Tryz.prog 91 #[.pointer (some ⟨cb,0,none⟩),.int .i64 1] w fun e w'=>∃ x:ByteArray,x.size=1∧e=.returned (.string x)∧Cur w' cb ao n cap∧w.grownBy w' (some cb):=by
 refine (text_any cb ao n cap 1 w hn hcur hcode (by decide)).mono ?_;rintro e w1 ⟨bs,hb,rfl,hc,hg⟩;exact ⟨_,by show bs.toArray.size=1;simp [hb],rfl,hc,hg⟩
theorem spoilt_any (cb:Nat) (ao:Option Addr) (n cap:Nat) (s:ByteArray) (w:World) (hn:n≤1048576) (hs:s.size≤100000) (hcur:Cur w cb ao n cap) (hcode:Code w cb ao n) :
  Calls Tryz.prog 42 #[.pointer (some ⟨cb,0,none⟩),.string s] w fun e w'=>∃ x:ByteArray,x.size≤300000∧e=.returned (.string x)∧w.grownBy w' (some cb):=by
 have HC:=hid hcur;have HO:=hid hcode;clear hcur hcode
 go_enter Tryz.func42,Tryz.ntmps42
 go_wp2_with fail
 refine (below4 cb ao n cap _ hn HC.out HO.out 12 (by decide) (by decide)).mono ?_;rintro e w1 ⟨k,hk,rfl,hc,hg⟩;have C1:=hid hc;have O1:=hid (HO.out.later hg);have G1:=hid hg;clear hc hg HC HO
 by_cases h0:k=0
 ·subst h0
  go_wp2_with fail
  refine (text1_any cb ao n cap _ hn C1.out O1.out).mono ?_;rintro e w2 ⟨x,hx,rfl,hc,hg⟩;have G2:=hid (only_trans G1.out hg);clear hc hg
  go_wp2
  go_ret
  exact ⟨s++x,by rw [ByteArray.size_append];omega,rfl,G2.out⟩
 by_cases h1:k=1
 ·subst h1
  go_wp2_with fail
  refine (below4 cb ao n cap _ hn C1.out O1.out ((s.size:Int)+1) (by omega) (by omega)).mono ?_;rintro e w2 ⟨x,hx,rfl,hc,hg⟩;have G2:=hid (only_trans G1.out hg)
  have hI:(0:Int)≤(x:Int)∧(x:Int)≤(s.size:Int):=by omega
  clear hc hg
  go_wp2
  go_ret
  exact ⟨s.extract 0 x,by rw [ByteArray.size_extract];omega,by simp,G2.out⟩
 have hk0:((k:Int) == 0)=false:=beq_eq_false_iff_ne.2 (by omega);have hk1:((k:Int) == 1)=false:=beq_eq_false_iff_ne.2 (by omega)
 by_cases h2:k=2∨k=3
 ·by_cases hz:0<s.size
  ·have hzI:(0:Int)<(s.size:Int):=by omega
   rcases h2 with rfl | rfl
   all_goals
    go_wp2_with fail
    refine (below4 cb ao n cap _ hn C1.out O1.out (s.size:Int) (by omega) (by omega)).mono ?_;rintro e w2 ⟨i,hi,rfl,hc,hg⟩;have G2:=hid (only_trans G1.out hg);have C2:=hid hc;have O2:=hid (O1.out.later hg)
    have hI:(0:Int)≤(i:Int)∧(i:Int)≤(s.size:Int):=by omega
    have hI1:(0:Int)≤(i:Int)+1∧(i:Int)+1≤(s.size:Int):=by omega
    clear hc hg
    go_wp2_with fail
    have hw:IntKind.i64.wrap ((i:Int)+1)=(i:Int)+1:=wrap_small _ (by omega) (by omega);have O2d:Hid (Code w2.drew cb ao n):=O2.out;have C2d:Hid (Cur w2.drew cb ao n cap):=C2.out;obtain ⟨p,hp⟩:∃ p,s.extract 0 i=p:=⟨_,rfl⟩;obtain ⟨q,hq⟩:∃ q,s.extract (i+1) s.size=q:=⟨_,rfl⟩
    have zp:p.size≤100000:=by rw [← hp,ByteArray.size_extract];omega
    have zq:q.size≤100000:=by rw [← hq,ByteArray.size_extract];omega
    go_region_held3 (fun _=>True) (trivial)
     ((go_at_call 91;refine (text1_any cb ao n cap w2.drew hn C2d.out O2d.out).mono ?_;rintro e w3 ⟨x,hx,rfl,hc,hg⟩;have G3:Hid (w.grownBy w3 (some cb)):=only_trans G2.out (wtr (grown_below (bdr (bre w2)) _) hg);have n1:(p.size+x.size > 9223372036854775807)=False:=eq_false (by omega);have n2:(p.size+x.size+q.size > 9223372036854775807)=False:=eq_false (by omega);have HXS:=hid hx;clear hc hg hx))
    clear n1 n2
    go_wp2
    go_ret
    exact ⟨p++x++q,by have:=HXS.out;rw [ByteArray.size_append,ByteArray.size_append];omega,rfl,G3.out⟩
  have hzI:¬ (0:Int)<(s.size:Int):=by omega
  rcases h2 with rfl | rfl
  all_goals
   go_wp2
   go_ret
   exact ⟨s,by omega,rfl,G1.out⟩
 have hk2:((k:Int) == 2)=false:=beq_eq_false_iff_ne.2 (by omega);have hk3:((k:Int) == 3)=false:=beq_eq_false_iff_ne.2 (by omega)
 go_wp2
 go_ret
 exact ⟨s,by omega,rfl,G1.out⟩
def Rd1 (w:World) (e:Ending) (w':World):Prop:=∃ (s:ByteArray) (a:Nat),e=.returned (.tuple #[.string s,.int .i64 (a:Int)])∧s.size≤300000∧a≤s.size∧Below w.heap.size w w'
end Go.Proofs.YtdkedgedkgabnaaGreatDoor
