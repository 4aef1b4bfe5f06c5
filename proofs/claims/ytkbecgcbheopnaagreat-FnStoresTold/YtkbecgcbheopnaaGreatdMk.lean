/- Mk. -/

import Derived.Test.YtkbecgcbheopnaaGreatdSto2
namespace Go.Proofs.YtkbecgcbheopnaaGreat
open Go.RowKit Go.ChangeMaps
theorem any_split {L:List M4} {gid:Int} (h:uq L=true) (ha:L.any (fun m=>decide (m.1=gid))=true) :
  ∃ A m C,L=A++m::C∧m.1=gid∧(∀ x∈A,x.1≠gid)∧(∀ x∈C,x.1≠gid):=by
 obtain ⟨m,hm,he⟩:=List.any_eq_true.1 ha
 simp only [decide_eq_true_eq] at he
 obtain ⟨A,C,rfl⟩:=List.append_of_mem hm
 unfold uq at h
 simp only [decide_eq_true_eq,List.map_append,List.map_cons] at h
 obtain ⟨-,h2,h3⟩:=List.nodup_append.1 h
 have h4:=(List.nodup_cons.1 h2).1
 refine ⟨A,m,C,rfl,he,fun x hx e=>?_,fun x hx e=>?_⟩
 ·exact h3 _ (List.mem_map_of_mem hx) m.1 (List.mem_cons_self ..) (by rw [e,he])
 ·exact h4 (by rw [he,← e];exact List.mem_map_of_mem hx)
def fgm (m:M4) (n st sb:Int):M4:=(m.1,m.2.1,sl m.2.2.1 n st sb,m.2.2.2)
def fmOk (g:Int) (nm:ByteArray) (t b nx:Int) (L:List M4) (G:List Int) (gid n st sb:Int):Bool :=
 bxOk g nm t b nx L G&&(L.any (fun m=>decide (m.1=gid))&&(flr n&&stOk st sb))
def fmL (p:Bool) (L:List M4) (gid n st sb:Int):List M4:=if p=true then L.map (fun m=>if m.1=gid then fgm m n st sb else m) else L
theorem map_skip {A:List M4} {gid:Int} (f:M4→M4) (h:∀ x∈A,x.1≠gid):A.map (fun m=>if m.1=gid then f m else m)=A:=by
 induction A with
 | nil=>rfl
 | cons a A ih =>
  rw [List.map_cons,ih (fun x hx=>h x (List.mem_cons_of_mem _ hx)),if_neg (h a (List.mem_cons_self ..))]
theorem fmL_split {A C:List M4} {m:M4} {gid n st sb:Int} (hm:m.1=gid) (ha:∀ x∈A,x.1≠gid) (hc:∀ x∈C,x.1≠gid):fmL true (A++m::C) gid n st sb=A++fgm m n st sb::C:=by
 rw [fmL,if_pos rfl,List.map_append,List.map_cons,map_skip (fun m=>fgm m n st sb) ha,map_skip (fun m=>fgm m n st sb) hc,if_pos hm]
theorem fmL_no (L:List M4) (gid n st sb:Int):fmL false L gid n st sb=L:=by rw [fmL,if_neg (by decide)]
theorem fmL_len (p:Bool) (L:List M4) (gid n st sb:Int):(fmL p L gid n st sb).length=L.length:=by unfold fmL;split <;> simp
theorem fm_sm (p:Bool) {L:List M4} {gid n st sb:Int} (h:Sm L):Sm (fmL p L gid n st sb):=by
 unfold fmL
 split
 ·intro m hm
  obtain ⟨x,hx,rfl⟩:=List.mem_map.1 hm
  have:=h x hx
  split
  ·exact ⟨by simp only [fgm];rw [sl_len];exact this.1,this.2⟩
  ·exact this
 ·exact h
theorem upr_swap {A C:List M4} {m m':M4} (h:Upr (A++m::C)) (hu:m'.2.1=m.2.1):Upr (A++m'::C):=by
 unfold Upr at h ⊢
 rw [List.pairwise_append,List.pairwise_cons] at h ⊢
 refine ⟨h.1,⟨fun x hx=>by rw [hu];exact h.2.1.1 x hx,h.2.1.2⟩,fun x hx y hy=>?_⟩
 rcases List.mem_cons.1 hy with rfl | hy
 ·rw [hu];exact h.2.2 x hx m (List.mem_cons_self ..)
 ·exact h.2.2 x hx y (List.mem_cons_of_mem _ hy)
theorem zc_set1 (Z:List Z5) (i:Nat) (z:Z5) (h:i<Z.length) (h0:z.1=Z[i].1) (h1:z.2.1=Z[i].2.1) (h3:z.2.2.2.2=Z[i].2.2.2.2) :
  (zc Z).set (i*4+2) z.2.2.1=zc (Z.set i z):=by
 induction Z generalizing i with
 | nil=>simp at h
 | cons y Z ih =>
  cases i with
  | zero =>
   simp only [List.getElem_cons_zero] at h0 h1 h3
   simp [zc,h0,h1,h3]
  | succ i =>
   have h':i<Z.length:=by simpa using h
   have:=ih i h' (by simpa using h0) (by simpa using h1) (by simpa using h3)
   have e:(i+1)*4+2=i*4+2+1+1+1+1:=by omega
   rw [e]
   simpa [zc] using this
theorem OwZ.flags {W:World} {B g n c:Nat} {Z:List Z5} (h:OwZ W B (.slice (some ⟨g,0,none⟩) n c) Z) (i:Nat) (hi:i<Z.length) (z:Z5) (h0:z.1=Z[i].1) (h1:z.2.1=Z[i].2.1) (h3:z.2.2.2.2=Z[i].2.2.2.2) (ho:Ow W B z.2.2.1 z.2.2.2.1) (hg:z.2.2.1.ownBlock≠some g) (hd:∀ y∈Z,Dj z.2.2.1 y.2.2.1) :
  OwZ (W.setCell ⟨g,i*4+2,none⟩ z.2.2.1) B (.slice (some ⟨g,0,none⟩) n c) (Z.set i z):=by
 obtain rfl:=h.ms.1
 have hgr:W.grownBy (W.setCell ⟨g,i*4+2,none⟩ z.2.2.1) (some g):=wst (wre _ _) _ _
 have h2:=(World.ownsRow.stored h.row (i*4+2) z.2.2.1).1
 rw [zc_set1 Z i z hi h0 h1 h3] at h2
 have hk:∀ {x:Value} {l:List R3},Ow W B x l→x.ownBlock≠some g→Ow (W.setCell ⟨g,i*4+2,none⟩ z.2.2.1) B x l :=
  fun hx hne=>World.ownsRow.kept hx hgr (Or.inr hne)
 refine ⟨by simpa using h2,fun y hy=>?_,fun y hy=>?_,pair_set h.apart i z hd (fun y hy=>(hd y hy).symm)⟩
 ·rcases mem_set hy with hy | rfl
  ·exact hk (h.each y hy) (far_of h hy)
  ·exact hk ho hg
 ·rcases mem_set hy with hy | rfl
  ·exact h.off y hy
  ·exact fun j hj hj'=>hg (by rw [hj',← hj];rfl)
theorem heap_far (W:World) {k j:Nat} (h:¬ k=j) (i:Nat) (v:Value) (hj:j<W.heap.size):(W.setCell ⟨k,i,none⟩ v).heap[j]?=W.heap[j]?:=by
 have hg:W.grownBy (W.setCell ⟨k,i,none⟩ v) (some k):=wst (wre _ _) _ _
 exact hg.block j hj (fun e=>h (by simpa using e.symm))
set_option maxHeartbeats 16000000 in
set_option maxRecDepth 100000 in
theorem specFlag_any (lo hh lo' hh':Nat) (g:Int) (nm:ByteArray) (t b nx:Int) (ma:Option Addr) (mn mc:Nat) (ga:Option Addr) (gn gc:Nat) (L:List M4) (G:List Int) (gid n st sb:Int) (w:World) (hnm:nm.size≤1048576) (hl:L.length=mn) (hn:mn≤1048576) (hsm:Sm L) (hm:Ms lo hh w ma L) (hgl:G.length=gn) (hgn:gn≤1048576) (hs:Is lo' hh' w ga G) (hg0:ga=none→gc=0) :
  Calls Tryz.prog 81 #[.agg #[.int .i64 g,.string nm,.int .i64 t,.int .i64 b,.int .i64 nx,.slice ma mn mc,.slice ga gn gc],.int .i64 gid,.int .i64 n,.agg #[.int .i64 st,.int .i64 sb]] w fun e w' =>
   ∃ mv gv,e=.returned (.tuple #[.agg #[.int .i64 g,.string nm,.int .i64 t,.int .i64 b,.int .i64 nx,mv,gv],.bool (fmOk g nm t b nx L G gid n st sb)])∧OwB w' w.heap.size mv gv (fmL (fmOk g nm t b nx L G gid n st sb) L gid n st sb) G∧Below w.heap.size w w':=by
 obtain ⟨p1,hp1,csp,_⟩:=box_l g nm t b nx mn gn L G hnm hl hn hsm hgl hgn
 obtain ⟨mt,hmt⟩:∃ mt,mat gid L 0=mt:=⟨_,rfl⟩
 obtain ⟨p4,hp4,cp4⟩:=in_range n 0 7
 obtain ⟨p5,hp5,cp5,_⟩:=st_l st sb
 have HX:Hid (fmOk g nm t b nx L G gid n st sb=(p1&&(decide (0≤mt)&&(p4&&p5)))):=by show _=_;rw [hp1.out,← hmt,mat_any,hp4.out,hp5.out];rfl
 have HAN:Hid (decide (0≤mt)=L.any (fun m=>decide (m.1=gid))):=by show _=_;rw [← hmt,mat_any]
 obtain ⟨W0,hW0⟩:∃ W0,((w.alloc (.cells #[.int .i64 g,.string nm,.int .i64 t,.int .i64 b,.int .i64 nx,.slice ma mn mc,.slice ga gn gc] 37)).alloc (.cells #[.int .i64 st,.int .i64 sb] 34)).alloc (.cells #[.int .i64 0,.string ⟨#[]⟩,.int .i64 0,.int .i64 0,.int .i64 0,.slice none 0 0,.slice none 0 0] 37)=W0:=⟨_,rfl⟩
 obtain ⟨a0,a1,a2,b0,s0⟩:=box_stamp w g nm t b nx (.slice ma mn mc) (.slice ga gn gc) st sb W0 hW0
 have c0:=a0.cells
 have A0:=hid a0
 have A1:=hid a1
 have A2:=hid a2
 have B0:=hid b0
 have S0:=hid s0
 have HP1:=hid hp1.out
 have HMT:=hid hmt
 have HL:=hid hl
 have HN:=hid hn
 have HSM:=hid hsm
 have HR:=hid hm
 have HGL:=hid hgl
 have HGN:=hid hgn
 have HIS:=hid hs
 have HG0:=hid hg0
 have HNM:=hid hnm
 clear a0 a1 a2 b0 s0 hp1 hmt hp4 hp5 hl hsm hm hgl hgn hs hg0 hnm hn
 go_enter Tryz.func81,Tryz.ntmps81
 go_wp2_with fail
 clear hW0
 refine (l06Copy_any lo hh lo' hh' g nm t b nx ma mn mc ga gn gc L G W0 HL.out HN.out HSM.out (HR.out.later B0.out) HGL.out HGN.out (HIS.out.later B0.out) HG0.out).mono ?_;rintro e w1 ⟨mv,gv,rfl,how1,hb1⟩
 obtain ⟨Z,hZ,hoz,hoi,hdj,hde⟩:=how1
 obtain ⟨va,vc,rfl⟩:=hoz.shape
 obtain ⟨ag,cg,hgv,_⟩:=hoi.shape
 rw [HGL.out] at hgv
 subst hgv
 obtain ⟨OB,hOB⟩:∃ OB,w1.heap.size=OB:=⟨_,rfl⟩
 obtain ⟨W2,hW2⟩:∃ W2,w1.alloc (.cells #[.int .i64 g,.string nm,.int .i64 t,.int .i64 b,.int .i64 nx,.slice va Z.length vc,.slice ag gn cg] 37)=W2:=⟨_,rfl⟩
 have hs0:=S0.out
 have b2:Below w1.heap.size w1 W2:=by subst hW2;exact bpush (bre _) _
 have t2:Stt w W2 OB g nm t b nx (.slice ma mn mc) (.slice ga gn gc) st sb (.slice va Z.length vc) (.slice ag gn cg) Z G:=by
  refine ⟨(A0.out.later hb1).later b2,(A1.out.later hb1).later b2,(A2.out.later hb1).later b2,?_,(hoz.base (by omega)).later b2,own_later (own_base hoi (by omega)) b2,btr (btr B0.out hb1) b2⟩
  rw [← hW2,← hOB];exact Bx.new w1 _ g nm t b nx _ _
 have HOBB:Hid (w.heap.size+1+1+1≤OB):=by show _≤_;rw [← hOB];have:=hb1.size;omega
 have HRO:Hid (∀ j,Value.ownBlock (.slice va Z.length vc)=some j→j≠OB):=fun j hj=>by have:=(hoz.row.lt j hj).2;omega
 have HEO:Hid (∀ z∈Z,∀ j,z.2.2.1.ownBlock=some j→j≠OB):=fun z hz j hj=>by have:=((hoz.each z hz).lt j hj).2;omega
 have HGO:Hid (∀ j,Value.ownBlock (.slice ag gn cg)=some j→j≠OB):=fun j hj=>by have:=(hoi.lt j hj).2;omega
 have HDJ:=hid hdj
 have HDE:=hid hde
 have HZL:=hid hZ
 have T2:=hid t2
 have k0:=t2.out.cells
 have q1:=t2.ans.cells
 have q2:=t2.ans.loose
 have c0:=t2.box.cells
 clear b2 t2 hoz hoi hdj hde hZ hb1 A0 A1 A2 B0 hs0
 go_wp2_with fail
 clear hW2
 refine (specMailAt_any lo hh g nm t b nx ma mn mc (.slice ga gn gc) L gid _ HL.out HN.out (HR.out.later T2.out.bel)).mono ?_;rintro e w3 ⟨rfl,hb3⟩
 rw [HMT.out]
 have T3:=hid (T2.out.later hb3)
 have c0:=T3.out.box.cells
 have k0:=T3.out.out.cells
 have q1:=T3.out.ans.cells
 have q2:=T3.out.ans.loose
 clear hb3 T2
 go_wp2_with fail
 refine (csp.out lo hh lo' hh' ma mc ga gc _ (HR.out.later T3.out.bel) (HIS.out.later T3.out.bel)).mono ?_;rintro e w4 ⟨rfl,hb4⟩
 have T4:=hid (T3.out.later hb4)
 have c0:=T4.out.box.cells
 have k0:=T4.out.out.cells
 have q1:=T4.out.ans.cells
 have q2:=T4.out.ans.loose
 clear hb4 T3
 cases p1
 ·have HE:Hid (fmOk g nm t b nx L G gid n st sb=false):=by show _=_;rw [HX.out];rfl
  go_wp2
  have e2:=set7_grown w4 (w.heap.size+1+1) g nm t b nx (.slice va Z.length vc) (.slice ag gn cg)
  have d1:=(T4.out.ans.set7 g nm t b nx (.slice va Z.length vc) (.slice ag gn cg)).cells
  unfold set7 at d1 e2
  have hbs:=T4.out.bel.size
  refine bodyPost_ret (v:=.tuple #[.agg #[.int .i64 g,.string nm,.int .i64 t,.int .i64 b,.int .i64 nx,.slice va Z.length vc,.slice ag gn cg],.bool false]) (by simp [results,Tryz.results81,go_sem,d1]) rfl ⟨_,_,by rw [HE.out],?_,?_⟩
  ·rw [HE.out,fmL_no]
   exact (OwB.grown ⟨Z,HZL.out,T4.out.ml,T4.out.gl,HDJ.out,HDE.out⟩ e2 (by omega)).base (by omega)
  ·exact T4.out.bel.trans (below_of_grown e2 (by omega) hbs)
 have HP1':=bx_parts HP1.out.symm
 have HUQ:=hid HP1'.2.2.2.1
 have HMN:Hid (mn≤10):=by show _≤_;rw [← HL.out];exact HP1'.1
 clear HP1'
 by_cases hmt:mt<0
 ·have HE:Hid (fmOk g nm t b nx L G gid n st sb=false):=by show _=_;rw [HX.out];rw [decide_eq_false (by omega:¬ 0≤mt)];rfl
  go_wp2
  have e2:=set7_grown w4 (w.heap.size+1+1) g nm t b nx (.slice va Z.length vc) (.slice ag gn cg)
  have d1:=(T4.out.ans.set7 g nm t b nx (.slice va Z.length vc) (.slice ag gn cg)).cells
  unfold set7 at d1 e2
  have hbs:=T4.out.bel.size
  refine bodyPost_ret (v:=.tuple #[.agg #[.int .i64 g,.string nm,.int .i64 t,.int .i64 b,.int .i64 nx,.slice va Z.length vc,.slice ag gn cg],.bool false]) (by simp [results,Tryz.results81,go_sem,d1]) rfl ⟨_,_,by rw [HE.out],?_,?_⟩
  ·rw [HE.out,fmL_no]
   exact (OwB.grown ⟨Z,HZL.out,T4.out.ml,T4.out.gl,HDJ.out,HDE.out⟩ e2 (by omega)).base (by omega)
  ·exact T4.out.bel.trans (below_of_grown e2 (by omega) hbs)
 go_wp2_with fail
 refine (cp4.out _).mono ?_;rintro e w5 ⟨rfl,h5⟩
 subst h5
 cases p4
 ·have HE:Hid (fmOk g nm t b nx L G gid n st sb=false):=by show _=_;rw [HX.out];simp
  go_wp2
  have e2:=set7_grown w5 (w.heap.size+1+1) g nm t b nx (.slice va Z.length vc) (.slice ag gn cg)
  have d1:=(T4.out.ans.set7 g nm t b nx (.slice va Z.length vc) (.slice ag gn cg)).cells
  unfold set7 at d1 e2
  have hbs:=T4.out.bel.size
  refine bodyPost_ret (v:=.tuple #[.agg #[.int .i64 g,.string nm,.int .i64 t,.int .i64 b,.int .i64 nx,.slice va Z.length vc,.slice ag gn cg],.bool false]) (by simp [results,Tryz.results81,go_sem,d1]) rfl ⟨_,_,by rw [HE.out],?_,?_⟩
  ·rw [HE.out,fmL_no]
   exact (OwB.grown ⟨Z,HZL.out,T4.out.ml,T4.out.gl,HDJ.out,HDE.out⟩ e2 (by omega)).base (by omega)
  ·exact T4.out.bel.trans (below_of_grown e2 (by omega) hbs)
 have st0:=T4.out.stm.cells
 go_wp2_with fail
 refine (cp5.out _).mono ?_;rintro e w6 ⟨rfl,hb6⟩
 clear st0
 have T6:=hid (T4.out.later hb6)
 have c0:=T6.out.box.cells
 have k0:=T6.out.out.cells
 have q1:=T6.out.ans.cells
 have q2:=T6.out.ans.loose
 clear hb6 T4
 cases p5
 ·have HE:Hid (fmOk g nm t b nx L G gid n st sb=false):=by show _=_;rw [HX.out];simp
  go_wp2
  have e2:=set7_grown w6 (w.heap.size+1+1) g nm t b nx (.slice va Z.length vc) (.slice ag gn cg)
  have d1:=(T6.out.ans.set7 g nm t b nx (.slice va Z.length vc) (.slice ag gn cg)).cells
  unfold set7 at d1 e2
  have hbs:=T6.out.bel.size
  refine bodyPost_ret (v:=.tuple #[.agg #[.int .i64 g,.string nm,.int .i64 t,.int .i64 b,.int .i64 nx,.slice va Z.length vc,.slice ag gn cg],.bool false]) (by simp [results,Tryz.results81,go_sem,d1]) rfl ⟨_,_,by rw [HE.out],?_,?_⟩
  ·rw [HE.out,fmL_no]
   exact (OwB.grown ⟨Z,HZL.out,T6.out.ml,T6.out.gl,HDJ.out,HDE.out⟩ e2 (by omega)).base (by omega)
  ·exact T6.out.bel.trans (below_of_grown e2 (by omega) hbs)
 have HE:Hid (fmOk g nm t b nx L G gid n st sb=true):=by show _=_;rw [HX.out,decide_eq_true (by omega:0≤mt)];rfl
 obtain ⟨A,m0,C,hLS,hMG,hNA,hNC⟩:=any_split HUQ.out (by rw [← HAN.out,decide_eq_true (by omega:0≤mt)])
 obtain ⟨i,hi⟩:∃ i,A.length=i:=⟨_,rfl⟩
 have hmi:mt=(i:Int):=by
  rw [← HMT.out,hLS,mat_split A m0 C 0 hNA hMG,← hi];simp
 subst hmi
 have hil:i<L.length:=by rw [hLS,List.length_append,List.length_cons];omega
 obtain ⟨kk,o,fa,fc,rfl,hk,⟨-,-,cf,-⟩,hrs,hf0⟩:=HR.out.at hil
 have hLi:L[i]=m0:=by
  subst hi
  simp only [hLS,List.getElem_append_right (Nat.le_refl _),Nat.sub_self,List.getElem_cons_zero]
 have hsm:=HSM.out L[i] (List.getElem_mem hil)
 rw [hLi] at cf hrs hsm
 obtain ⟨g1,u1,l1,t1⟩:=m0
 dsimp only at cf hrs hsm
 obtain ⟨m,hm⟩:∃ m,l1.length=m:=⟨_,rfl⟩
 rw [hm] at cf hsm
 have hzl:Z.length=L.length:=by rw [← HZL.out,List.length_map]
 rcases T6.out.ml.row.2 with ⟨_,h2⟩ | ⟨gr,cap',cur,h1,hB,-⟩
 ·exfalso;omega
 simp only [Value.slice.injEq] at h1
 obtain ⟨rfl,-,rfl⟩:=h1
 have hiz:i<Z.length:=by omega
 obtain ⟨zf,hzf⟩:∃ zf,Z[i].2.2.1=zf:=⟨_,rfl⟩
 have hZi:Z[i]=(g1,u1,zf,l1,t1):=by
  have h1:(Z.map md)[i]'(by rw [List.length_map];exact hiz)=L[i]:=by simp only [HZL.out]
  rw [List.getElem_map,hLi] at h1
  rw [← hzf]
  simp only [md,Prod.mk.injEq] at h1
  obtain ⟨e1,e2,e3,e4⟩:=h1
  rw [← e1,← e2,← e3,← e4]
 have HM:=hid hm
 have HMB:=hid hsm.1
 have HRS:=hid (hrs.later T6.out.bel)
 have HF0:=hid hf0
 have HOZ:=hid T6.out.ml
 have HIZ:=hid hiz
 have HZI:=hid hZi
 have X6:=hid T6.out.out
 have HGB:Hid (w.heap.size+1+1+1≤gr):=hB
 have HGO2:Hid (gr≠OB):=HRO.out gr rfl
 have HGL6:Hid (gr<w6.heap.size):=(T6.out.ml.row.lt gr rfl).2
 have hw6:=T6.out.ans.lt
 have HWB:Hid (w.heap.size+1+1+1≤w6.heap.size):=hw6
 have HWB2:Hid (w.heap.size+1+1+1≤w6.heap.size):=hw6
 have HLS:=hid hLS
 have HIA:Hid (i=A.length):=hi.symm
 have HMG:=hid hMG
 have HNA:=hid hNA
 have HNC:=hid hNC
 have hmn:i<mn:=by have:=HL.out;omega
 have hI:(0:Int)≤(i:Int)∧(i:Int)<(Z.length:Int)∧(i:Int)<(mn:Int):=by omega
 have HSS:Hid (∀ W,Below (w.heap.size+1+1+1) w6 W→W.heap[OB]?=w6.heap[OB]?→W.cell? ⟨OB,5,none⟩=some (.slice (some ⟨gr,0,none⟩) Z.length vc)∧W.cell? ⟨w.heap.size,5,none⟩=some (.slice (some ⟨kk,o,none⟩) mn mc)∧(W.cell? ⟨w.heap.size+1,0,none⟩=some (.int .i64 st)∧W.cell? ⟨w.heap.size+1,1,none⟩=some (.int .i64 sb))∧W.cell? ⟨kk,o+i*4+2,none⟩=some (.slice fa m fc)):=fun W h1 h2 =>
  ⟨(cell_same (p:=⟨OB,5,none⟩) h2).trans T6.out.out.cells.2.2.2.2.2.1,(cell_same (p:=⟨w.heap.size,5,none⟩) (h1.block w.heap.size (by omega))).trans T6.out.box.cells.2.2.2.2.2.1,⟨(cell_same (p:=⟨w.heap.size+1,0,none⟩) (h1.block (w.heap.size+1) (by omega))).trans T6.out.stm.cells.1,(cell_same (p:=⟨w.heap.size+1,1,none⟩) (h1.block (w.heap.size+1) (by omega))).trans T6.out.stm.cells.2⟩,((cell_same (p:=⟨kk,o+i*4+2,none⟩) (h1.block kk (by omega))).trans (cell_same (p:=⟨kk,o+i*4+2,none⟩) (T6.out.bel.block kk hk))).trans cf⟩
 have hz1:(w.heap.size+1+1+1≤w6.heap.size):=hw6
 clear hLS hi hMG hNA hNC hil hk cf hrs hf0 hLi hsm hm hzl hB hzf hZi hw6 hmt
 go_wp2_with fail
 refine wp_region_noPanic ?_
 refine wp_region_held_drew (S:=(fun W=>W.cell? ⟨OB,5,none⟩=some (.slice (some ⟨gr,0,none⟩) Z.length vc)∧W.cell? ⟨w.heap.size,5,none⟩=some (.slice (some ⟨kk,o,none⟩) mn mc)∧(W.cell? ⟨w.heap.size+1,0,none⟩=some (.int .i64 st)∧W.cell? ⟨w.heap.size+1,1,none⟩=some (.int .i64 sb))∧W.cell? ⟨kk,o+i*4+2,none⟩=some (.slice fa m fc))) (by kernel_rfl) (HSS.out _ (Below.drew (Below.refl _ _)) rfl) (fun hHeld=>?_)
 refine tk 0 ?_
 refine tk 1 ?_
 refine tk 2 ?_
 refine tk 3 ?_
 refine tk 4 ?_
 refine tk 5 ?_
 refine tk 6 ?_
 refine tk 7 ?_
 refine tk 8 ?_
 refine tk 9 ?_
 refine tk 10 ?_
 clear hHeld
 refine ry 11 (fun K hK=>?_)
 go_simp
 refine (specSetFlags_any fa m fc l1 n st sb _ HM.out HMB.out (HRS.out.later (bdr (bre _))) HF0.out).mono ?_;rintro e w7 ⟨v,rfl,how7,hb7⟩
 have B7:=hid (show Below w6.heap.size w6 w7 from btr (bdr (bre _)) hb7)
 have O7:=hid how7
 obtain ⟨a7,c7,hv7,_⟩:=Ow.shape how7
 rw [sl_len,HM.out] at hv7
 subst hv7
 have z7:=HOZ.out.later B7.out
 obtain ⟨cz,fz7⟩:=z7.spot i HIZ.out
 rw [HZI.out] at cz
 have Z7:=hid z7
 clear hb7 how7 z7
 go_wp2_with fail
 refine hK.out _ _ (HSS.out _ (B7.out.mono HWB.out) (B7.out.block OB X6.out.lt)) (fun hHeld=>?_)
 clear hK K
 try simp only [Act.put,tp2,tp3,tp4]
 refine tk 12 ?_
 refine tk 13 ?_
 clear hHeld
 refine ry 14 (fun K hK=>?_)
 go_simp
 refine hK.out _ _ (HSS.out _ (B7.out.mono HWB.out |>.trans ((Below.refl _ _).setCell (p:=⟨gr,i*4+2,none⟩) HGB.out _)) ((heap_far w7 (fun e=>HGO2.out e) _ _ (Nat.lt_of_lt_of_le X6.out.lt B7.out.size)).trans (B7.out.block OB X6.out.lt))) (fun hHeld=>?_)
 clear hK K
 try simp only [Act.put,tp2,tp3,tp4]
 refine wpAnyH_done (by kernel_rfl) ?_ _
 refine NoPanic.normal ?_
 obtain ⟨W8,hW8⟩:∃ W8,w7.setCell ⟨gr,i*4+2,none⟩ (.slice a7 m c7)=W8:=⟨_,rfl⟩
 have g8:w7.grownBy W8 (some gr):=by rw [← hW8];exact wst (wre _ _) _ _
 have z8:OwZ W8 (w.heap.size+1+1+1) (.slice (some ⟨gr,0,none⟩) Z.length vc) (Z.set i ((g1,u1,Value.slice a7 m c7,sl l1 n st sb,t1):Z5)):=by
  rw [← hW8]
  exact OwZ.flags Z7.out i HIZ.out ((g1,u1,Value.slice a7 m c7,sl l1 n st sb,t1):Z5) (by rw [HZI.out]) (by rw [HZI.out]) (by rw [HZI.out]) (own_base O7.out HWB2.out) (fun e=>by have h1:=(O7.out.lt gr e).1;have h2:=HGL6.out;have h3:w6.heap.size≤gr:=h1;omega) (fun y hy j hj hj'=>by have h1:w6.heap.size≤j:=(O7.out.lt j hj).1;have h2:=((HOZ.out.each y hy).lt j hj').2;omega)
 have i8:OwI W8 (w.heap.size+1+1+1) (.slice ag gn cg) G:=row_kept (own_later T6.out.gl B7.out) g8 (fun j hj e=>HDJ.out j hj (by rw [← e];rfl))
 have x8:Bx W8 OB 37 g nm t b nx (.slice (some ⟨gr,0,none⟩) Z.length vc) (.slice ag gn cg):=(X6.out.later B7.out).grown g8 (fun e=>HGO2.out (by simpa using e.symm))
 have r8:Bx W8 (w.heap.size+1+1) 37 0 ⟨#[]⟩ 0 0 0 (.slice none 0 0) (.slice none 0 0):=(T6.out.ans.later B7.out).grown g8 (fun e=>by have h1:=HGB.out;simp only [Option.some.injEq] at e;omega)
 have b8:Below w.heap.size w W8:=(btr T6.out.bel B7.out).trans (below_of_grown g8 (by have h1:=HGB.out;omega) (btr T6.out.bel B7.out).size)
 have HDZ:Hid (∀ z∈Z.set i ((g1,u1,Value.slice a7 m c7,sl l1 n st sb,t1):Z5),Dj (.slice ag gn cg) z.2.2.1):=fun z hz j hj hj'=>by
  rcases mem_set hz with hz | rfl
  ·exact HDE.out z hz j hj hj'
  ·have h1:=(T6.out.gl.lt j hj).2
   have h2:w6.heap.size≤j:=(O7.out.lt j hj').1
   omega
 have HZ8:Hid ((Z.set i ((g1,u1,Value.slice a7 m c7,sl l1 n st sb,t1):Z5)).map md=fmL true L gid n st sb):=by
  show _=_
  rw [List.map_set,HZL.out,HLS.out,HIA.out,fmL_split HMG.out HNA.out HNC.out,List.set_append_right _ _ (Nat.le_refl _),Nat.sub_self,List.set_cons_zero]
  rfl
 simp only [hW8]
 have Z8:=hid z8
 have I8:=hid i8
 have R8:=hid r8
 have B8:=hid b8
 have k8:=x8.cells
 have q1:=r8.cells
 have q2:=r8.loose
 clear hHeld hW8 g8 z8 i8 x8 r8 b8 cz fz7 c0 k0
 go_wp2
 have e2:=set7_grown W8 (w.heap.size+1+1) g nm t b nx (.slice (some ⟨gr,0,none⟩) Z.length vc) (.slice ag gn cg)
 have d1:=(R8.out.set7 g nm t b nx (.slice (some ⟨gr,0,none⟩) Z.length vc) (.slice ag gn cg)).cells
 unfold set7 at d1 e2
 have hbs:=B8.out.size
 refine bodyPost_ret (v:=.tuple #[.agg #[.int .i64 g,.string nm,.int .i64 t,.int .i64 b,.int .i64 nx,.slice (some ⟨gr,0,none⟩) Z.length vc,.slice ag gn cg],.bool true]) (by simp [results,Tryz.results81,go_sem,d1]) rfl ⟨_,_,by rw [HE.out],?_,?_⟩
 ·rw [HE.out]
  exact (OwB.grown ⟨Z.set i ((g1,u1,Value.slice a7 m c7,sl l1 n st sb,t1):Z5),HZ8.out,Z8.out,I8.out,HDJ.out,HDZ.out⟩ e2 (by omega)).base (by omega)
 ·exact B8.out.trans (below_of_grown e2 (by omega) hbs)
end Go.Proofs.YtkbecgcbheopnaaGreat
namespace Go.Proofs.YtkbecgcbheopnaaGreat
open Go.RowKit Go.ChangeMaps
set_option maxHeartbeats 16000000 in
set_option maxRecDepth 100000 in
theorem implFlag_any (lo hh lo' hh':Nat) (g:Int) (nm:ByteArray) (t b nx:Int) (ma:Option Addr) (mn mc:Nat) (ga:Option Addr) (gn gc:Nat) (L:List M4) (G:List Int) (gid n st sb:Int) (w:World) (hnm:nm.size≤1048576) (hl:L.length=mn) (hn:mn≤1048576) (hsm:Sm L) (hm:Ms lo hh w ma L) (hm0:ma=none→mc=0) (hgl:G.length=gn) (hgn:gn≤1048576) (hs:Is lo' hh' w ga G) (hg0:ga=none→gc=0) :
  Calls Tryz.prog 80 #[.agg #[.int .i64 g,.string nm,.int .i64 t,.int .i64 b,.int .i64 nx,.slice ma mn mc,.slice ga gn gc],.int .i64 gid,.int .i64 n,.agg #[.int .i64 st,.int .i64 sb]] w fun e w' =>
   ∃ mv gv,e=.returned (.tuple #[.agg #[.int .i64 g,.string nm,.int .i64 t,.int .i64 b,.int .i64 nx,mv,gv],.bool (fmOk g nm t b nx L G gid n st sb)])∧OwB w' w.heap.size mv gv (fmL (fmOk g nm t b nx L G gid n st sb) L gid n st sb) G∧Below w.heap.size w w':=by
 obtain ⟨p1,hp1,_,csp⟩:=box_l g nm t b nx mn gn L G hnm hl hn hsm hgl hgn
 obtain ⟨p2,hp2⟩:∃ p2,L.any (fun m=>decide (m.1=gid))=p2:=⟨_,rfl⟩
 obtain ⟨p4,hp4⟩:∃ p4,decide (0≤n∧n≤7)=p4:=⟨_,rfl⟩
 obtain ⟨p5,hp5,_,cp5⟩:=st_l st sb
 have HX:Hid (fmOk g nm t b nx L G gid n st sb=(p1&&(p2&&(p4&&p5)))):=by
  show _=_
  rw [hp1.out,← hp2,← hp4,hp5.out]
  unfold fmOk flr
  rw [Bool.decide_and]
 obtain ⟨W0,hW0⟩:∃ W0,((w.alloc (.cells #[.int .i64 g,.string nm,.int .i64 t,.int .i64 b,.int .i64 nx,.slice ma mn mc,.slice ga gn gc] 37)).alloc (.cells #[.int .i64 st,.int .i64 sb] 34)).alloc (.cells #[.int .i64 0,.string ⟨#[]⟩,.int .i64 0,.int .i64 0,.int .i64 0,.slice none 0 0,.slice none 0 0] 37)=W0:=⟨_,rfl⟩
 obtain ⟨a0,a1,a2,b0,s0⟩:=box_stamp w g nm t b nx (.slice ma mn mc) (.slice ga gn gc) st sb W0 hW0
 have c0:=a0.cells
 have A0:=hid a0
 have A1:=hid a1
 have A2:=hid a2
 have B0:=hid b0
 have S0:=hid s0
 have HP1:=hid hp1.out
 have HP2:=hid hp2
 have HP4:=hid hp4
 have HL:=hid hl
 have HN:=hid hn
 have HSM:=hid hsm
 have HR:=hid hm
 have HM0:=hid hm0
 have HGL:=hid hgl
 have HGN:=hid hgn
 have HIS:=hid hs
 have HG0:=hid hg0
 have HNM:=hid hnm
 clear a0 a1 a2 b0 s0 hp1 hp2 hp4 hp5 hl hsm hm hm0 hgl hgn hs hg0 hnm hn
 go_enter Tryz.func80,Tryz.ntmps80
 go_wp2_with fail
 clear hW0
 refine (shelfOf_any lo hh ma mn mc L W0 HL.out HN.out HSM.out (HR.out.later B0.out)).mono ?_;rintro e w1 ⟨rfl,⟨E,cl,hE,hmp⟩,hb1⟩
 obtain ⟨MB,hMB⟩:∃ MB,W0.heap.size=MB:=⟨_,rfl⟩
 rw [hMB] at hmp ⊢
 have t1:Shs w w1 MB g nm t b nx (.slice ma mn mc) (.slice ga gn gc) st sb E cl:=⟨A0.out.later hb1,A1.out.later hb1,A2.out.later hb1,by
   have h1:=hmp
   have h2:=S0.out
   rw [hMB] at h2
   rw [h2] at h1 ⊢
   exact h1,btr B0.out hb1⟩
 have T1:=hid t1
 have HE0:=hid hE
 have k0:=t1.box.cells
 clear t1 hmp hE hb1 A0 A1 A2 B0 c0 hMB
 go_wp2_with fail
 refine (csp.out lo hh lo' hh' ma mc ga gc _ (HR.out.later T1.out.bel) (HIS.out.later T1.out.bel)).mono ?_;rintro e w2 ⟨rfl,hb2⟩
 have T2:=hid (T1.out.later hb2)
 have k0:=T2.out.box.cells
 clear hb2 T1
 cases p1
 ·have HE:Hid (fmOk g nm t b nx L G gid n st sb=false):=by show _=_;rw [HX.out];rfl
  clear k0
  have k1:=T2.out.box.cells
  go_wp2_with fail
  clear k1
  refine (copyOfBox_any lo hh lo' hh' g nm t b nx ma mn mc ga gn gc L G _ HNM.out HL.out HN.out HSM.out (HR.out.later T2.out.bel) HM0.out HGL.out HGN.out (HIS.out.later T2.out.bel) HG0.out).mono ?_;rintro e wz ⟨mv',gv',rfl,howz,hbz⟩
  obtain ⟨Z',hZ',hoz',hoi',hdj',hde'⟩:=howz
  obtain ⟨va',vc',rfl⟩:=hoz'.shape
  obtain ⟨ag',cg',hgv',_⟩:=hoi'.shape
  rw [HGL.out] at hgv'
  subst hgv'
  have rz:=T2.out.ans.later hbz
  have q1:=rz.cells
  have q2:=rz.loose
  have RZ:=hid rz
  have BZ:=hid (btr T2.out.bel hbz)
  have OZ:Hid (OwB wz (w2).heap.size (.slice va' Z'.length vc') (.slice ag' gn cg') L G):=⟨Z',hZ',hoz',hoi',hdj',hde'⟩
  have HWZ:Hid (w.heap.size+1+1+1≤(w2).heap.size):=T2.out.ans.lt
  clear rz hbz hZ' hoz' hoi' hdj' hde'
  go_wp2
  have e2:=set7_grown wz (w.heap.size+1+1) g nm t b nx (.slice va' Z'.length vc') (.slice ag' gn cg')
  have d1:=(RZ.out.set7 g nm t b nx (.slice va' Z'.length vc') (.slice ag' gn cg')).cells
  unfold set7 at d1 e2
  have hbs:=BZ.out.size
  have hwz:=HWZ.out
  refine bodyPost_ret (v:=.tuple #[.agg #[.int .i64 g,.string nm,.int .i64 t,.int .i64 b,.int .i64 nx,.slice va' Z'.length vc',.slice ag' gn cg'],.bool false]) (by simp [results,Tryz.results80,go_sem,d1]) rfl ⟨_,_,by rw [HE.out],?_,?_⟩
  ·rw [HE.out,fmL_no]
   exact (OwB.grown OZ.out e2 (by omega)).base (by omega)
  ·exact BZ.out.trans (below_of_grown e2 (by omega) hbs)
 have hp:=bx_parts HP1.out.symm
 have HMN:Hid (mn≤10):=by show _≤_;rw [← HL.out];exact hp.1
 have HUP:=hid (alr_upr hp.2.2.1)
 have HUQ:=hid hp.2.2.2.1
 have HEL:Hid (E.map mde=L):=by show _=_;rw [HE0.out,shl_uniq hp.2.2.2.1]
 clear hp HE0
 go_wp2_with fail
 refine (holds_any _ MB cl E gid _ T2.out.mp).mono ?_;rintro e w3 ⟨rfl,hb3⟩
 rw [any_mde gid E HEL.out,HP2.out]
 have T3:=hid (T2.out.later hb3)
 have k0:=T3.out.box.cells
 clear hb3 T2
 cases p2
 ·have HE:Hid (fmOk g nm t b nx L G gid n st sb=false):=by show _=_;rw [HX.out];simp
  clear k0
  have k1:=T3.out.box.cells
  go_wp2_with fail
  clear k1
  refine (copyOfBox_any lo hh lo' hh' g nm t b nx ma mn mc ga gn gc L G _ HNM.out HL.out HN.out HSM.out (HR.out.later T3.out.bel) HM0.out HGL.out HGN.out (HIS.out.later T3.out.bel) HG0.out).mono ?_;rintro e wz ⟨mv',gv',rfl,howz,hbz⟩
  obtain ⟨Z',hZ',hoz',hoi',hdj',hde'⟩:=howz
  obtain ⟨va',vc',rfl⟩:=hoz'.shape
  obtain ⟨ag',cg',hgv',_⟩:=hoi'.shape
  rw [HGL.out] at hgv'
  subst hgv'
  have rz:=T3.out.ans.later hbz
  have q1:=rz.cells
  have q2:=rz.loose
  have RZ:=hid rz
  have BZ:=hid (btr T3.out.bel hbz)
  have OZ:Hid (OwB wz (w3).heap.size (.slice va' Z'.length vc') (.slice ag' gn cg') L G):=⟨Z',hZ',hoz',hoi',hdj',hde'⟩
  have HWZ:Hid (w.heap.size+1+1+1≤(w3).heap.size):=T3.out.ans.lt
  clear rz hbz hZ' hoz' hoi' hdj' hde'
  go_wp2
  have e2:=set7_grown wz (w.heap.size+1+1) g nm t b nx (.slice va' Z'.length vc') (.slice ag' gn cg')
  have d1:=(RZ.out.set7 g nm t b nx (.slice va' Z'.length vc') (.slice ag' gn cg')).cells
  unfold set7 at d1 e2
  have hbs:=BZ.out.size
  have hwz:=HWZ.out
  refine bodyPost_ret (v:=.tuple #[.agg #[.int .i64 g,.string nm,.int .i64 t,.int .i64 b,.int .i64 nx,.slice va' Z'.length vc',.slice ag' gn cg'],.bool false]) (by simp [results,Tryz.results80,go_sem,d1]) rfl ⟨_,_,by rw [HE.out],?_,?_⟩
  ·rw [HE.out,fmL_no]
   exact (OwB.grown OZ.out e2 (by omega)).base (by omega)
  ·exact BZ.out.trans (below_of_grown e2 (by omega) hbs)
 go_wp2_with fail
 refine (right_flags n _).mono ?_;rintro e w4 ⟨rfl,h4⟩
 subst h4
 rw [HP4.out]
 cases p4
 ·have HE:Hid (fmOk g nm t b nx L G gid n st sb=false):=by show _=_;rw [HX.out];simp
  clear k0
  have k1:=T3.out.box.cells
  go_wp2_with fail
  clear k1
  refine (copyOfBox_any lo hh lo' hh' g nm t b nx ma mn mc ga gn gc L G _ HNM.out HL.out HN.out HSM.out (HR.out.later T3.out.bel) HM0.out HGL.out HGN.out (HIS.out.later T3.out.bel) HG0.out).mono ?_;rintro e wz ⟨mv',gv',rfl,howz,hbz⟩
  obtain ⟨Z',hZ',hoz',hoi',hdj',hde'⟩:=howz
  obtain ⟨va',vc',rfl⟩:=hoz'.shape
  obtain ⟨ag',cg',hgv',_⟩:=hoi'.shape
  rw [HGL.out] at hgv'
  subst hgv'
  have rz:=T3.out.ans.later hbz
  have q1:=rz.cells
  have q2:=rz.loose
  have RZ:=hid rz
  have BZ:=hid (btr T3.out.bel hbz)
  have OZ:Hid (OwB wz (w4).heap.size (.slice va' Z'.length vc') (.slice ag' gn cg') L G):=⟨Z',hZ',hoz',hoi',hdj',hde'⟩
  have HWZ:Hid (w.heap.size+1+1+1≤(w4).heap.size):=T3.out.ans.lt
  clear rz hbz hZ' hoz' hoi' hdj' hde'
  go_wp2
  have e2:=set7_grown wz (w.heap.size+1+1) g nm t b nx (.slice va' Z'.length vc') (.slice ag' gn cg')
  have d1:=(RZ.out.set7 g nm t b nx (.slice va' Z'.length vc') (.slice ag' gn cg')).cells
  unfold set7 at d1 e2
  have hbs:=BZ.out.size
  have hwz:=HWZ.out
  refine bodyPost_ret (v:=.tuple #[.agg #[.int .i64 g,.string nm,.int .i64 t,.int .i64 b,.int .i64 nx,.slice va' Z'.length vc',.slice ag' gn cg'],.bool false]) (by simp [results,Tryz.results80,go_sem,d1]) rfl ⟨_,_,by rw [HE.out],?_,?_⟩
  ·rw [HE.out,fmL_no]
   exact (OwB.grown OZ.out e2 (by omega)).base (by omega)
  ·exact BZ.out.trans (below_of_grown e2 (by omega) hbs)
 have st0:=T3.out.stm.cells
 go_wp2_with fail
 refine (cp5.out _).mono ?_;rintro e w5 ⟨rfl,hb5⟩
 clear st0
 have T5:=hid (T3.out.later hb5)
 have k0:=T5.out.box.cells
 clear hb5 T3
 cases p5
 ·have HE:Hid (fmOk g nm t b nx L G gid n st sb=false):=by show _=_;rw [HX.out];simp
  clear k0
  have k1:=T5.out.box.cells
  go_wp2_with fail
  clear k1
  refine (copyOfBox_any lo hh lo' hh' g nm t b nx ma mn mc ga gn gc L G _ HNM.out HL.out HN.out HSM.out (HR.out.later T5.out.bel) HM0.out HGL.out HGN.out (HIS.out.later T5.out.bel) HG0.out).mono ?_;rintro e wz ⟨mv',gv',rfl,howz,hbz⟩
  obtain ⟨Z',hZ',hoz',hoi',hdj',hde'⟩:=howz
  obtain ⟨va',vc',rfl⟩:=hoz'.shape
  obtain ⟨ag',cg',hgv',_⟩:=hoi'.shape
  rw [HGL.out] at hgv'
  subst hgv'
  have rz:=T5.out.ans.later hbz
  have q1:=rz.cells
  have q2:=rz.loose
  have RZ:=hid rz
  have BZ:=hid (btr T5.out.bel hbz)
  have OZ:Hid (OwB wz (w5).heap.size (.slice va' Z'.length vc') (.slice ag' gn cg') L G):=⟨Z',hZ',hoz',hoi',hdj',hde'⟩
  have HWZ:Hid (w.heap.size+1+1+1≤(w5).heap.size):=T5.out.ans.lt
  clear rz hbz hZ' hoz' hoi' hdj' hde'
  go_wp2
  have e2:=set7_grown wz (w.heap.size+1+1) g nm t b nx (.slice va' Z'.length vc') (.slice ag' gn cg')
  have d1:=(RZ.out.set7 g nm t b nx (.slice va' Z'.length vc') (.slice ag' gn cg')).cells
  unfold set7 at d1 e2
  have hbs:=BZ.out.size
  have hwz:=HWZ.out
  refine bodyPost_ret (v:=.tuple #[.agg #[.int .i64 g,.string nm,.int .i64 t,.int .i64 b,.int .i64 nx,.slice va' Z'.length vc',.slice ag' gn cg'],.bool false]) (by simp [results,Tryz.results80,go_sem,d1]) rfl ⟨_,_,by rw [HE.out],?_,?_⟩
  ·rw [HE.out,fmL_no]
   exact (OwB.grown OZ.out e2 (by omega)).base (by omega)
  ·exact BZ.out.trans (below_of_grown e2 (by omega) hbs)
 have HE:Hid (fmOk g nm t b nx L G gid n st sb=true):=by show _=_;rw [HX.out];rfl
 obtain ⟨A,m0,C,hLS,hMG,hNA,hNC⟩:=any_split HUQ.out HP2.out
 have hnk:¬ ∀ e∈E,e.1.1≠gid:=fun h=>by
  have h1:=HP2.out
  rw [← any_mde gid E HEL.out,List.any_eq_true] at h1
  obtain ⟨e,he,h2⟩:=h1
  exact h e he (by simpa using h2)
 obtain ⟨E1,⟨z,bo⟩,E2,hES,h1,h2⟩:=split_key hnk
 have hmem:((z,bo):En)∈E:=by rw [hES];simp
 have hzm:md z=m0:=by
  have h3:mde (z,bo)∈L:=by rw [← HEL.out];exact List.mem_map_of_mem hmem
  rw [hLS] at h3
  rcases List.mem_append.1 h3 with h3 | h3
  ·exact absurd h2 (hNA _ h3)
  ·rcases List.mem_cons.1 h3 with h3 | h3
   ·exact h3
   ·exact absurd h2 (hNC _ h3)
 obtain ⟨g1,u1,zf,l1,t1⟩:=z
 dsimp only at h2
 subst h2
 have hoe:=T5.out.mp.each _ hmem
 dsimp only at hoe
 obtain ⟨fa,fc,hzf,hrs⟩:=Ow.shape hoe
 subst hzf
 have hsm:=(HSM.out m0 (by rw [hLS];simp)).1
 rw [← hzm] at hsm
 dsimp only [md] at hsm
 obtain ⟨m,hm⟩:∃ m,l1.length=m:=⟨_,rfl⟩
 have hf:=run_find w5 (find_yes g1 E1 ((g1,u1,Value.slice fa l1.length fc,l1,t1),bo) E2 0 h1 rfl)
 have hlk:(Instr.lookup 114 (.map (some MB)) (.int .i64 g1) false).run Tryz.prog w5=.ok (.agg #[.int .i64 g1,.int .i64 u1,.slice fa m fc,.string t1]) w5:=by
  simp only [Instr.lookup,Sem.run_bind,run_underlying Tryz.underlying114,Result.andThen,MapKept.run_getObj_map T5.out.mp.lies,Sem.run_pure,run_check]
  rw [hES,hf,← hm]
  rfl
 rw [hm] at hsm
 have HM:=hid hm
 have HMB:=hid hsm
 have HRS:=hid hrs
 have HLS:=hid hLS
 have HMG:=hid hMG
 have HNA:=hid hNA
 have HNC:=hid hNC
 have HZM:Hid (((g1,u1,l1,t1):M4)=m0):=hzm
 obtain ⟨KM,hKM⟩:∃ KM,w5.heap.size=KM:=⟨_,rfl⟩
 obtain ⟨W6,hW6⟩:∃ W6,w5.alloc (.cells #[.int .i64 g1,.int .i64 u1,.slice fa m fc,.string t1] 86)=W6:=⟨_,rfl⟩
 have x6:Mg W6 KM 86 g1 u1 (.slice fa m fc) t1:=by rw [← hW6,← hKM];exact Mg.new w5 _ g1 u1 _ t1
 have b6:Below w5.heap.size w5 W6:=by rw [← hW6];exact bpush (bre _) _
 have st6:=(T5.out.later b6).stm.cells
 have k6:=x6.cells
 have X6:=hid x6
 have B6:=hid b6
 have HKM:=hid hKM
 clear hnk hES hmem hzm hoe hrs hsm hm hf hLS hMG hNA hNC h1 x6 b6 k0
 go_wp2_with fail
 clear hW6 hKM hlk
 refine (implSetFlags_any fa m fc l1 n st sb W6 HM.out HMB.out (HRS.out.later B6.out)).mono ?_;rintro e w7 ⟨gf,hgf,rfl,how7,hb7⟩
 obtain ⟨W8,hW8⟩:∃ W8,w7.setCell ⟨KM,2,none⟩ (.slice (some ⟨gf,0,none⟩) m m)=W8:=⟨_,rfl⟩
 have hk6:KM<W6.heap.size:=X6.out.lt
 have hk5:=HKM.out
 have g8:w7.grownBy W8 (some KM):=by rw [← hW8];exact wst (wre _ _) _ _
 have x7:=X6.out.later hb7
 have x8:Mg W8 KM 86 g1 u1 (.slice (some ⟨gf,0,none⟩) m m) t1:=by rw [← hW8];exact x7.s2 _
 have b8:Below w5.heap.size w5 W8:=(btr B6.out hb7).trans (below_of_grown g8 (by omega) (btr B6.out hb7).size)
 have o8:Ow W8 W6.heap.size (.slice (some ⟨gf,0,none⟩) m m) (sl l1 n st sb):=World.ownsRow.kept how7 g8 (Or.inr (by simp only [Value.ownBlock,ne_eq,Option.some.injEq];omega))
 have t8:=T5.out.later b8
 have k7:=x7.cells
 have f7:=x7.loose
 have k8:=x8.cells
 have hans:=T5.out.ans.lt
 obtain ⟨W9,E',c',hrun,hmp9,hE9,hgr,_⟩:=t8.mp.put ((g1,u1,Value.slice (some ⟨gf,0,none⟩) m m,sl l1 n st sb,t1):Z5) (own_base o8 (by omega)) (fun e he j hj hj'=>by have h1:=((T5.out.mp.each e he).lt j hj').2;simp [Value.ownBlock] at hj;omega)
 have hrun':(Instr.mapUpdate 114 (.map (some MB)) (.int .i64 g1) (.agg #[.int .i64 g1,.int .i64 u1,.slice (some ⟨gf,0,none⟩) m m,.string t1])).run Tryz.prog W8=.ok () W9:=hrun
 have T9:=hid (t8.put hgr hmp9)
 have HEN:Hid (E'.map mde=A++fgm m0 n st sb::C):=by
  show _=_
  rw [hE9,HEL.out,HLS.out]
  have e1:md ((g1,u1,Value.slice (some ⟨gf,0,none⟩) m m,sl l1 n st sb,t1):Z5)=fgm m0 n st sb:=by rw [← HZM.out];rfl
  rw [e1]
  exact pt_old (fun y hy=>by show y.1≠m0.1;rw [HMG.out];exact HNA.out y hy) (fun y hy=>by show y.1≠m0.1;rw [HMG.out];exact HNC.out y hy) rfl
 have HUN:Hid (Upr (A++fgm m0 n st sb::C)):=by
  have h1:=HUP.out
  rw [HLS.out] at h1
  exact upr_swap h1 rfl
 have k9:=T9.out.box.cells
 clear hgf how7 hb7 hk6 hk5 g8 x7 x8 b8 o8 t8 hans hrun hmp9 hE9 hgr st6 k6
 go_wp2_with fail
 clear hrun' hW8 k7 f7 k8
 refine (boxWith_any lo' hh' g nm t b nx (.slice ma mn mc) ga gn gc (A++fgm m0 n st sb::C) G _ MB c' E' W9 ma mn mc rfl HNM.out (by have h1:=congrArg List.length HEN.out;have h2:=HL.out;have h3:=HMN.out;rw [HLS.out] at h2;simp at h1 h2;omega) T9.out.mp (List.Perm.of_eq HEN.out) HUN.out HGL.out HGN.out (HIS.out.later T9.out.bel) HG0.out).mono ?_;rintro e w10 ⟨mv,gv,rfl,how10,hb10⟩
 obtain ⟨Z,hZ,hoz,hoi,hdj,hde⟩:=how10
 obtain ⟨va,vc,rfl⟩:=hoz.shape
 obtain ⟨ag,cg,hgv,_⟩:=hoi.shape
 rw [HGL.out] at hgv
 subst hgv
 have r10:=T9.out.ans.later hb10
 have q1:=r10.cells
 have q2:=r10.loose
 have R10:=hid r10
 have B10:=hid (btr T9.out.bel hb10)
 have OZ:Hid (OwB w10 (w.heap.size+1+1+1) (.slice va Z.length vc) (.slice ag gn cg) (A++fgm m0 n st sb::C) G):=⟨Z,hZ,hoz,hoi,hdj,hde⟩
 clear r10 hb10 hZ hoz hoi hdj hde k9
 go_wp2
 have e2:=set7_grown w10 (w.heap.size+1+1) g nm t b nx (.slice va Z.length vc) (.slice ag gn cg)
 have d1:=(R10.out.set7 g nm t b nx (.slice va Z.length vc) (.slice ag gn cg)).cells
 unfold set7 at d1 e2
 have hbs:=B10.out.size
 refine bodyPost_ret (v:=.tuple #[.agg #[.int .i64 g,.string nm,.int .i64 t,.int .i64 b,.int .i64 nx,.slice va Z.length vc,.slice ag gn cg],.bool true]) (by simp [results,Tryz.results80,go_sem,d1]) rfl ⟨_,_,by rw [HE.out],?_,?_⟩
 ·rw [HE.out,HLS.out,fmL_split HMG.out HNA.out HNC.out]
  exact (OwB.grown OZ.out e2 (by omega)).base (by omega)
 ·exact B10.out.trans (below_of_grown e2 (by omega) hbs)
end Go.Proofs.YtkbecgcbheopnaaGreat
