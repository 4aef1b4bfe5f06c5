/- Sfl8, Tkz. -/
import Derived.Test.YtdkedgedkgabnaaGreatDoorX15
namespace Go.Proofs.YtdkedgedkgabnaaGreatDoor
open Go.RowKit Go.ChangeMaps
set_option maxHeartbeats 16000000
set_option maxRecDepth 100000
theorem put_ls (v t b n t' b':Int):∃ v1 t1 b1:Int,Hid (pp (v,t,b) n t' b'=(v1,t1,b1))∧Hid (∀ w,Calls Tryz.prog 187 #[.agg #[.int .i64 v,.int .i64 t,.int .i64 b],.int .i64 n,.agg #[.int .i64 t',.int .i64 b']] w fun e w'=>e=.returned (.agg #[.int .i64 v1,.int .i64 t1,.int .i64 b1])∧Below w.heap.size w w'):=by
 have e:preg v t b n t' b'=rgv (pp (v,t,b) n t' b').1 (pp (v,t,b) n t' b').2.1 (pp (v,t,b) n t' b').2.2:=by
  unfold preg pp;split <;> rfl
 obtain ⟨r,hr⟩:∃ r,pp (v,t,b) n t' b'=r:=⟨_,rfl⟩;rw [hr] at e ⊢;obtain ⟨v1,t1,b1⟩:=r;exact ⟨v1,t1,b1,rfl,fun w=>(specPut_any v t b n t' b' w).mono fun _ _ k=>⟨by rw [k.1,e],k.2⟩⟩
theorem specSetFlags8_any (ao:Option Addr) (n cap:Nat) (l:List R3) (m t b:Int) (w:World) (hl:l.length=n) (hn:n≤1048576) (hr:Rs w ao l) (h0:ao=none→cap=0) :
  Calls Tryz.prog 164 #[.slice ao n cap,.int .i64 m,.agg #[.int .i64 t,.int .i64 b]] w fun e w'=>∃ v,e=.returned v∧Ow w' w.heap.size v (sl l m t b)∧Below w.heap.size w w':=by
 obtain ⟨W0,hW0⟩:∃ W0,w.alloc (.cells #[.int .i64 t,.int .i64 b] 35)=W0:=⟨_,rfl⟩
 have A0:Hid (Sg W0 w.heap.size 35 t b):=by subst hW0;exact Sg.new w _ t b
 have B0:Hid (Below w.heap.size w W0):=by subst hW0;exact bpush (bre _) _
 have HR:=hid hr;have HL:=hid hl;have H0:=hid h0;clear hr hl h0
 go_enter Tryz.func164,Tryz.ntmps164
 go_wp2_with fail
 clear hW0;refine (l04Copy_any ao n cap l _ HL.out hn (HR.out.later B0.out) H0.out).mono ?_;rintro e w1 ⟨v0,rfl,hown1,hb1⟩;have HO1:=hid hown1;have HG1:=hid hb1;clear hown1 hb1
 go_wp2_with fail
 refine (specFlagsOk_any ao n cap l _ HL.out hn (HR.out.later (btr B0.out HG1.out))).mono ?_;rintro e w2 ⟨rfl,hb2⟩;have HO2:=hid (own_later HO1.out hb2);have HG2:Hid (Below W0.heap.size W0 w2):=btr HG1.out hb2;clear hb2
 cases hok:flOk l
 ·have HSL:=hid (sl_not l m t b (by simp [hok]))
  clear hok
  go_wp2
  go_ret
  exact ⟨_,rfl,own_base (B':=W0.heap.size) (by rw [HSL.out];exact HO2.out) B0.out.size,btr B0.out HG2.out⟩
 have HOK:=hid hok;clear hok
 go_wp2_with fail
 refine (in_any m 0 7 _).mono ?_;rintro e w3 ⟨rfl,rfl⟩
 by_cases hm:0≤m∧m≤7
 ·have HM:=hid hm
  have hd:decide (0≤m∧m≤7)=true:=by simpa using hm
  rw [hd]
  have HN3:Hid (n=3):=by show _=_;rw [← HL.out];exact flOk_len HOK.out
  have hm0:0≤m:=hm.1;have hm7:m≤7:=hm.2;clear hm hd;obtain ⟨g,c,hv0,hg⟩:=Ow.solid HO2.out (by rw [HL.out,HN3.out];decide);rw [HL.out] at hv0;subst hv0;have HGG:=hid hg;clear hg
  go_wp2_with fail
  go_loopw [8] (fun iv wr=>∃ i:Nat,i≤n∧iv=.int .i64 (i:Int)∧Ow wr W0.heap.size (.slice (some ⟨g,0,none⟩) n c) (sfil l m t b i)∧Below W0.heap.size W0 wr) (fun iv _=>n - (intOf iv).toNat)
  case atStart=>exact ⟨0,Nat.zero_le _,rfl,by rw [sfil_zero];exact HO2.out,HG2.out⟩
  case round =>
   obtain ⟨i,hi,rfl,hown,hb⟩:=hrel;have HO:=hid hown;have HB:=hid hb;clear hown hb
   by_cases hlt:i<n
   ·have hi3:i<3:=by have:=HN3.out;omega
    have hil:i<l.length:=by rw [HL.out];exact hlt
    have hil':i<(sfil l m t b i).length:=by rw [sfil_len];exact hil
    obtain ⟨p,hp⟩:∃ p,l[i]=p:=⟨_,rfl⟩;have hc:=Ow.here HO.out i hil' p ((sfil_at l m t b i hil hil').trans hp);have HP:=hid hp;have HIL:=hid hil';obtain ⟨v,t0,b0⟩:=p;clear hp hil';obtain ⟨x,hx⟩:∃ x,bit m i=x:=⟨_,rfl⟩;have HX:=hid hx;have hbt:(m / 2 ^ i).tmod 2=x:=(bit_tmod rfl (Int.ediv_nonneg hm0 (by exact_mod_cast Nat.zero_le (2 ^ i)))).trans hx
    by_cases hxv:x=v
    ·have HSS:=hid (sfil_same l m t b i hil (by rw [HP.out,hx];exact hxv))
     subst hxv
     have hxx:(x != x)=false:=by simp
     clear hx
     go_wp2
     go_roundw
     case rel=>exact ⟨i+1,by omega,by go_num,HO.out.cast HSS.out,HB.out⟩
     case measure=>simp [intOf];omega
    have HSP:Hid (sp m t b i l[i]=pp (v,t0,b0) x t b):=by show _=_;rw [HP.out];unfold sp;rw [hx,if_neg hxv]
    have hxx:(v != x)=true:=by simpa using fun h=>hxv h.symm
    obtain ⟨v1,t1,b1,hj,cs⟩:=put_ls v t0 b0 x t b;have s4:=(A0.out.later HB.out).cells
    have hI:(0:Int)≤(i:Int)∧(i:Int)<(n:Int):=by omega
    clear hx hxv
    go_wp2_with fail
    go_region_with (first | (go_at_call 187;refine (cs.out _).mono ?_;rintro e w5 ⟨rfl,hb5⟩;have HO5:=hid (own_later HO.out (btr (bdr (bre _)) hb5));have hsp:=Ow.spot HO5.out i HIL.out;obtain ⟨x1,x2,x3,hc5,hf5⟩:=hsp;have HST:=hid (Ow.stored HO5.out i HIL.out (v1,t1,b1));have HB5:Hid (Below W0.heap.size W0 w5):=btr (bdr HB.out) hb5))
    all_goals
     go_wp2
     go_roundw
     case rel=>exact ⟨i+1,by omega,by go_num,HST.out.cast (by rw [← hj.out,← HSP.out];exact sfil_set l m t b i hil),bset (bset (bset HB5.out HGG.out _) HGG.out _) HGG.out _⟩
     case measure=>simp [intOf];omega
   have HE:Hid (sfil l m t b i=sl l m t b):=by
    have:=HN3.out
    have hi3:i=3:=by omega
    subst hi3;exact sfil_all l m t b HOK.out HM.out (by rw [HL.out];exact HN3.out)
   go_wp2
   go_ret
   exact ⟨_,rfl,own_base (B':=W0.heap.size) (HO.out.cast HE.out) B0.out.size,btr B0.out HB.out⟩
 have HSL:=hid (sl_not l m t b (by intro h;exact hm h.2))
 have hd:decide (0≤m∧m≤7)=false:=by simpa using hm
 rw [hd];clear hm hd
 go_wp2
 go_ret
 exact ⟨_,rfl,own_base (B':=W0.heap.size) (by rw [HSL.out];exact HO2.out) B0.out.size,btr B0.out HG2.out⟩
theorem specFlag8_any (lo hh lo' hh':Nat) (g:Int) (nm:ByteArray) (t b nx:Int) (ma:Option Addr) (mn mc:Nat) (ga:Option Addr) (gn gc:Nat) (L:List M4) (G:List Int) (gid n st sb:Int) (w:World) (hnm:nm.size≤1048576) (hl:L.length=mn) (hn:mn≤1048576) (hsm:Sm L) (hm:Ms lo hh w ma L) (hgl:G.length=gn) (hgn:gn≤1048576) (hs:Is lo' hh' w ga G) (hg0:ga=none→gc=0) :
  Calls Tryz.prog 133 #[.agg #[.int .i64 g,.string nm,.int .i64 t,.int .i64 b,.int .i64 nx,.slice ma mn mc,.slice ga gn gc],.int .i64 gid,.int .i64 n,.agg #[.int .i64 st,.int .i64 sb]] w fun e w' =>
   ∃ mv gv,e=.returned (.tuple #[.agg #[.int .i64 g,.string nm,.int .i64 t,.int .i64 b,.int .i64 nx,mv,gv],.bool (fmOk g nm t b nx L G gid n st sb)])∧OwB w' w.heap.size mv gv (fmL (fmOk g nm t b nx L G gid n st sb) L gid n st sb) G∧Below w.heap.size w w':=by
 obtain ⟨p1,hp1,csp,_⟩:=box_l g nm t b nx mn gn L G hnm hl hn hsm hgl hgn;obtain ⟨mt,hmt⟩:∃ mt,mat gid L 0=mt:=⟨_,rfl⟩;obtain ⟨p4,hp4,cp4⟩:=in_range n 0 7;obtain ⟨p5,hp5,cp5,_⟩:=st_l st sb
 have HX:Hid (fmOk g nm t b nx L G gid n st sb=(p1&&(decide (0≤mt)&&(p4&&p5)))):=by show _=_;rw [hp1.out,← hmt,mat_any,hp4.out,hp5.out];rfl
 have HAN:Hid (decide (0≤mt)=L.any (fun m=>decide (m.1=gid))):=by show _=_;rw [← hmt,mat_any]
 obtain ⟨W0,hW0⟩:∃ W0,((w.alloc (.cells #[.int .i64 g,.string nm,.int .i64 t,.int .i64 b,.int .i64 nx,.slice ma mn mc,.slice ga gn gc] 38)).alloc (.cells #[.int .i64 st,.int .i64 sb] 35)).alloc (.cells #[.int .i64 0,.string ⟨#[]⟩,.int .i64 0,.int .i64 0,.int .i64 0,.slice none 0 0,.slice none 0 0] 38)=W0:=⟨_,rfl⟩;obtain ⟨a0,a1,a2,b0,s0⟩:=box_stamp w g nm t b nx (.slice ma mn mc) (.slice ga gn gc) st sb W0 hW0;have c0:=a0.cells;have A0:=hid a0;have A1:=hid a1;have A2:=hid a2;have B0:=hid b0;have S0:=hid s0;have HP1:=hid hp1.out;have HMT:=hid hmt;have HL:=hid hl;have HN:=hid hn;have HSM:=hid hsm;have HR:=hid hm;have HGL:=hid hgl;have HGN:=hid hgn;have HIS:=hid hs;have HG0:=hid hg0;have HNM:=hid hnm;clear a0 a1 a2 b0 s0 hp1 hmt hp4 hp5 hl hsm hm hgl hgn hs hg0 hnm hn
 go_enter Tryz.func133,Tryz.ntmps133
 go_wp2_with fail
 clear hW0;refine (l06Copy_any lo hh lo' hh' g nm t b nx ma mn mc ga gn gc L G W0 HL.out HN.out HSM.out (HR.out.later B0.out) HGL.out HGN.out (HIS.out.later B0.out) HG0.out).mono ?_;rintro e w1 ⟨mv,gv,rfl,how1,hb1⟩;obtain ⟨Z,hZ,hoz,hoi,hdj,hde⟩:=how1;obtain ⟨va,vc,rfl⟩:=hoz.shape;obtain ⟨ag,cg,hgv,_⟩:=hoi.shape;rw [HGL.out] at hgv;subst hgv;obtain ⟨OB,hOB⟩:∃ OB,w1.heap.size=OB:=⟨_,rfl⟩;obtain ⟨W2,hW2⟩:∃ W2,w1.alloc (.cells #[.int .i64 g,.string nm,.int .i64 t,.int .i64 b,.int .i64 nx,.slice va Z.length vc,.slice ag gn cg] 38)=W2:=⟨_,rfl⟩;have hs0:=S0.out
 have b2:Below w1.heap.size w1 W2:=by subst hW2;exact bpush (bre _) _
 have t2:Stt w W2 OB g nm t b nx (.slice ma mn mc) (.slice ga gn gc) st sb (.slice va Z.length vc) (.slice ag gn cg) Z G:=by
  refine ⟨(A0.out.later hb1).later b2,(A1.out.later hb1).later b2,(A2.out.later hb1).later b2,?_,(hoz.base (by omega)).later b2,own_later (own_base hoi (by omega)) b2,btr (btr B0.out hb1) b2⟩;rw [← hW2,← hOB];exact Bx.new w1 _ g nm t b nx _ _
 have HOBB:Hid (w.heap.size+1+1+1≤OB):=by show _≤_;rw [← hOB];have:=hb1.size;omega
 have HRO:Hid (∀ j,Value.ownBlock (.slice va Z.length vc)=some j→j≠OB):=fun j hj=>by have:=(hoz.row.lt j hj).2;omega
 have HEO:Hid (∀ z∈Z,∀ j,z.2.2.1.ownBlock=some j→j≠OB):=fun z hz j hj=>by have:=((hoz.each z hz).lt j hj).2;omega
 have HGO:Hid (∀ j,Value.ownBlock (.slice ag gn cg)=some j→j≠OB):=fun j hj=>by have:=(hoi.lt j hj).2;omega
 have HDJ:=hid hdj;have HDE:=hid hde;have HZL:=hid hZ;have T2:=hid t2;have k0:=t2.out.cells;have q1:=t2.ans.cells;have q2:=t2.ans.loose;have c0:=t2.box.cells;clear b2 t2 hoz hoi hdj hde hZ hb1 A0 A1 A2 B0 hs0
 go_wp2_with fail
 clear hW2;refine (specMailAt_any lo hh g nm t b nx ma mn mc (.slice ga gn gc) L gid _ HL.out HN.out (HR.out.later T2.out.bel)).mono ?_;rintro e w3 ⟨rfl,hb3⟩;rw [HMT.out];have T3:=hid (T2.out.later hb3);have c0:=T3.out.box.cells;have k0:=T3.out.out.cells;have q1:=T3.out.ans.cells;have q2:=T3.out.ans.loose;clear hb3 T2
 go_wp2_with fail
 refine (csp.out lo hh lo' hh' ma mc ga gc _ (HR.out.later T3.out.bel) (HIS.out.later T3.out.bel)).mono ?_;rintro e w4 ⟨rfl,hb4⟩;have T4:=hid (T3.out.later hb4);have c0:=T4.out.box.cells;have k0:=T4.out.out.cells;have q1:=T4.out.ans.cells;have q2:=T4.out.ans.loose;clear hb4 T3
 cases p1
 ·have HE:Hid (fmOk g nm t b nx L G gid n st sb=false):=by show _=_;rw [HX.out];rfl
  go_wp2
  have e2:=set7_grown w4 (w.heap.size+1+1) g nm t b nx (.slice va Z.length vc) (.slice ag gn cg);have d1:=(T4.out.ans.set7 g nm t b nx (.slice va Z.length vc) (.slice ag gn cg)).cells;unfold set7 at d1 e2;have hbs:=T4.out.bel.size;refine bodyPost_ret (v:=.tuple #[.agg #[.int .i64 g,.string nm,.int .i64 t,.int .i64 b,.int .i64 nx,.slice va Z.length vc,.slice ag gn cg],.bool false]) (by simp [results,Tryz.results133,go_sem,d1]) rfl ⟨_,_,by rw [HE.out],?_,?_⟩
  ·rw [HE.out,fmL_no]
   exact (OwB.grown ⟨Z,HZL.out,T4.out.ml,T4.out.gl,HDJ.out,HDE.out⟩ e2 (by omega)).base (by omega)
  exact T4.out.bel.trans (below_of_grown e2 (by omega) hbs)
 have HP1':=bx_parts HP1.out.symm;have HUQ:=hid HP1'.2.2.2.1
 have HMN:Hid (mn≤10):=by show _≤_;rw [← HL.out];exact HP1'.1
 clear HP1'
 by_cases hmt:mt<0
 ·have HE:Hid (fmOk g nm t b nx L G gid n st sb=false):=by show _=_;rw [HX.out];rw [decide_eq_false (by omega:¬ 0≤mt)];rfl
  go_wp2
  have e2:=set7_grown w4 (w.heap.size+1+1) g nm t b nx (.slice va Z.length vc) (.slice ag gn cg);have d1:=(T4.out.ans.set7 g nm t b nx (.slice va Z.length vc) (.slice ag gn cg)).cells;unfold set7 at d1 e2;have hbs:=T4.out.bel.size;refine bodyPost_ret (v:=.tuple #[.agg #[.int .i64 g,.string nm,.int .i64 t,.int .i64 b,.int .i64 nx,.slice va Z.length vc,.slice ag gn cg],.bool false]) (by simp [results,Tryz.results133,go_sem,d1]) rfl ⟨_,_,by rw [HE.out],?_,?_⟩
  ·rw [HE.out,fmL_no]
   exact (OwB.grown ⟨Z,HZL.out,T4.out.ml,T4.out.gl,HDJ.out,HDE.out⟩ e2 (by omega)).base (by omega)
  exact T4.out.bel.trans (below_of_grown e2 (by omega) hbs)
 go_wp2_with fail
 refine (cp4.out _).mono ?_;rintro e w5 ⟨rfl,h5⟩;subst h5
 cases p4
 ·have HE:Hid (fmOk g nm t b nx L G gid n st sb=false):=by show _=_;rw [HX.out];simp
  go_wp2
  have e2:=set7_grown w5 (w.heap.size+1+1) g nm t b nx (.slice va Z.length vc) (.slice ag gn cg);have d1:=(T4.out.ans.set7 g nm t b nx (.slice va Z.length vc) (.slice ag gn cg)).cells;unfold set7 at d1 e2;have hbs:=T4.out.bel.size;refine bodyPost_ret (v:=.tuple #[.agg #[.int .i64 g,.string nm,.int .i64 t,.int .i64 b,.int .i64 nx,.slice va Z.length vc,.slice ag gn cg],.bool false]) (by simp [results,Tryz.results133,go_sem,d1]) rfl ⟨_,_,by rw [HE.out],?_,?_⟩
  ·rw [HE.out,fmL_no]
   exact (OwB.grown ⟨Z,HZL.out,T4.out.ml,T4.out.gl,HDJ.out,HDE.out⟩ e2 (by omega)).base (by omega)
  exact T4.out.bel.trans (below_of_grown e2 (by omega) hbs)
 have st0:=T4.out.stm.cells
 go_wp2_with fail
 refine (cp5.out _).mono ?_;rintro e w6 ⟨rfl,hb6⟩;clear st0;have T6:=hid (T4.out.later hb6);have c0:=T6.out.box.cells;have k0:=T6.out.out.cells;have q1:=T6.out.ans.cells;have q2:=T6.out.ans.loose;clear hb6 T4
 cases p5
 ·have HE:Hid (fmOk g nm t b nx L G gid n st sb=false):=by show _=_;rw [HX.out];simp
  go_wp2
  have e2:=set7_grown w6 (w.heap.size+1+1) g nm t b nx (.slice va Z.length vc) (.slice ag gn cg);have d1:=(T6.out.ans.set7 g nm t b nx (.slice va Z.length vc) (.slice ag gn cg)).cells;unfold set7 at d1 e2;have hbs:=T6.out.bel.size;refine bodyPost_ret (v:=.tuple #[.agg #[.int .i64 g,.string nm,.int .i64 t,.int .i64 b,.int .i64 nx,.slice va Z.length vc,.slice ag gn cg],.bool false]) (by simp [results,Tryz.results133,go_sem,d1]) rfl ⟨_,_,by rw [HE.out],?_,?_⟩
  ·rw [HE.out,fmL_no]
   exact (OwB.grown ⟨Z,HZL.out,T6.out.ml,T6.out.gl,HDJ.out,HDE.out⟩ e2 (by omega)).base (by omega)
  exact T6.out.bel.trans (below_of_grown e2 (by omega) hbs)
 have HE:Hid (fmOk g nm t b nx L G gid n st sb=true):=by show _=_;rw [HX.out,decide_eq_true (by omega:0≤mt)];rfl
 obtain ⟨A,m0,C,hLS,hMG,hNA,hNC⟩:=any_split HUQ.out (by rw [← HAN.out,decide_eq_true (by omega:0≤mt)]);obtain ⟨i,hi⟩:∃ i,A.length=i:=⟨_,rfl⟩
 have hmi:mt=(i:Int):=by
  rw [← HMT.out,hLS,mat_split A m0 C 0 hNA hMG,← hi];simp
 subst hmi
 have hil:i<L.length:=by rw [hLS,List.length_append,List.length_cons];omega
 obtain ⟨kk,o,fa,fc,rfl,hk,⟨-,-,cf,-⟩,hrs,hf0⟩:=HR.out.at hil
 have hLi:L[i]=m0:=by
  subst hi;simp only [hLS,List.getElem_append_right (Nat.le_refl _),Nat.sub_self,List.getElem_cons_zero]
 have hsm:=HSM.out L[i] (List.getElem_mem hil);rw [hLi] at cf hrs hsm;obtain ⟨g1,u1,l1,t1⟩:=m0;dsimp only at cf hrs hsm;obtain ⟨m,hm⟩:∃ m,l1.length=m:=⟨_,rfl⟩;rw [hm] at cf hsm
 have hzl:Z.length=L.length:=by rw [← HZL.out,List.length_map]
 rcases T6.out.ml.row.2 with ⟨_,h2⟩ | ⟨gr,cap',cur,h1,hB,-⟩
 ·exfalso;omega
 simp only [Value.slice.injEq] at h1;obtain ⟨rfl,-,rfl⟩:=h1
 have hiz:i<Z.length:=by omega
 obtain ⟨zf,hzf⟩:∃ zf,Z[i].2.2.1=zf:=⟨_,rfl⟩
 have hZi:Z[i]=(g1,u1,zf,l1,t1):=by
  have h1:(Z.map md)[i]'(by rw [List.length_map];exact hiz)=L[i]:=by simp only [HZL.out]
  rw [List.getElem_map,hLi] at h1;rw [← hzf];simp only [md,Prod.mk.injEq] at h1;obtain ⟨e1,e2,e3,e4⟩:=h1;rw [← e1,← e2,← e3,← e4]
 have HM:=hid hm;have HMB:=hid hsm.1;have HRS:=hid (hrs.later T6.out.bel);have HF0:=hid hf0;have HOZ:=hid T6.out.ml;have HIZ:=hid hiz;have HZI:=hid hZi;have X6:=hid T6.out.out;have HGB:Hid (w.heap.size+1+1+1≤gr):=hB;have HGO2:Hid (gr≠OB):=HRO.out gr rfl;have HGL6:Hid (gr<w6.heap.size):=(T6.out.ml.row.lt gr rfl).2;have hw6:=T6.out.ans.lt;have HWB:Hid (w.heap.size+1+1+1≤w6.heap.size):=hw6;have HWB2:Hid (w.heap.size+1+1+1≤w6.heap.size):=hw6;have HLS:=hid hLS;have HIA:Hid (i=A.length):=hi.symm;have HMG:=hid hMG;have HNA:=hid hNA;have HNC:=hid hNC
 have hmn:i<mn:=by have:=HL.out;omega
 have hI:(0:Int)≤(i:Int)∧(i:Int)<(Z.length:Int)∧(i:Int)<(mn:Int):=by omega
 have HSS:Hid (∀ W,Below (w.heap.size+1+1+1) w6 W→W.heap[OB]?=w6.heap[OB]?→W.cell? ⟨OB,5,none⟩=some (.slice (some ⟨gr,0,none⟩) Z.length vc)∧W.cell? ⟨w.heap.size,5,none⟩=some (.slice (some ⟨kk,o,none⟩) mn mc)∧(W.cell? ⟨w.heap.size+1,0,none⟩=some (.int .i64 st)∧W.cell? ⟨w.heap.size+1,1,none⟩=some (.int .i64 sb))∧W.cell? ⟨kk,o+i*4+2,none⟩=some (.slice fa m fc)):=fun W h1 h2 =>
  ⟨(cell_same (p:=⟨OB,5,none⟩) h2).trans T6.out.out.cells.2.2.2.2.2.1,(cell_same (p:=⟨w.heap.size,5,none⟩) (h1.block w.heap.size (by omega))).trans T6.out.box.cells.2.2.2.2.2.1,⟨(cell_same (p:=⟨w.heap.size+1,0,none⟩) (h1.block (w.heap.size+1) (by omega))).trans T6.out.stm.cells.1,(cell_same (p:=⟨w.heap.size+1,1,none⟩) (h1.block (w.heap.size+1) (by omega))).trans T6.out.stm.cells.2⟩,((cell_same (p:=⟨kk,o+i*4+2,none⟩) (h1.block kk (by omega))).trans (cell_same (p:=⟨kk,o+i*4+2,none⟩) (T6.out.bel.block kk hk))).trans cf⟩
 have hz1:(w.heap.size+1+1+1≤w6.heap.size):=hw6;clear hLS hi hMG hNA hNC hil hk cf hrs hf0 hLi hsm hm hzl hB hzf hZi hw6 hmt
 go_wp2_with fail
 refine wp_region_noPanic ?_;refine wp_region_held_drew (S:=(fun W=>W.cell? ⟨OB,5,none⟩=some (.slice (some ⟨gr,0,none⟩) Z.length vc)∧W.cell? ⟨w.heap.size,5,none⟩=some (.slice (some ⟨kk,o,none⟩) mn mc)∧(W.cell? ⟨w.heap.size+1,0,none⟩=some (.int .i64 st)∧W.cell? ⟨w.heap.size+1,1,none⟩=some (.int .i64 sb))∧W.cell? ⟨kk,o+i*4+2,none⟩=some (.slice fa m fc))) (by kernel_rfl) (HSS.out _ (Below.drew (Below.refl _ _)) rfl) (fun hHeld=>?_);refine tk 0 ?_;refine tk 1 ?_;refine tk 2 ?_;refine tk 3 ?_;refine tk 4 ?_;refine tk 5 ?_;refine tk 6 ?_;refine tk 7 ?_;refine tk 8 ?_;refine tk 9 ?_;refine tk 10 ?_;clear hHeld;refine ry 11 (fun K hK=>?_);go_simp;refine (specSetFlags8_any fa m fc l1 n st sb _ HM.out HMB.out (HRS.out.later (bdr (bre _))) HF0.out).mono ?_;rintro e w7 ⟨v,rfl,how7,hb7⟩;have B7:=hid (show Below w6.heap.size w6 w7 from btr (bdr (bre _)) hb7);have O7:=hid how7;obtain ⟨a7,c7,hv7,_⟩:=Ow.shape how7;rw [sl_len,HM.out] at hv7;subst hv7;have z7:=HOZ.out.later B7.out;obtain ⟨cz,fz7⟩:=z7.spot i HIZ.out;rw [HZI.out] at cz;have Z7:=hid z7;clear hb7 how7 z7
 go_wp2_with fail
 refine hK.out _ _ (HSS.out _ (B7.out.mono HWB.out) (B7.out.block OB X6.out.lt)) (fun hHeld=>?_);clear hK K;try simp only [Act.put,tq]
 refine tk 12 ?_;refine tk 13 ?_;clear hHeld;refine ry 14 (fun K hK=>?_);go_simp;refine hK.out _ _ (HSS.out _ (B7.out.mono HWB.out |>.trans ((Below.refl _ _).setCell (p:=⟨gr,i*4+2,none⟩) HGB.out _)) ((heap_far w7 (fun e=>HGO2.out e) _ _ (Nat.lt_of_lt_of_le X6.out.lt B7.out.size)).trans (B7.out.block OB X6.out.lt))) (fun hHeld=>?_);clear hK K;try simp only [Act.put,tq]
 refine dn ?_;obtain ⟨W8,hW8⟩:∃ W8,w7.setCell ⟨gr,i*4+2,none⟩ (.slice a7 m c7)=W8:=⟨_,rfl⟩
 have g8:w7.grownBy W8 (some gr):=by rw [← hW8];exact wst (wre _ _) _ _
 have z8:OwZ W8 (w.heap.size+1+1+1) (.slice (some ⟨gr,0,none⟩) Z.length vc) (Z.set i ((g1,u1,Value.slice a7 m c7,sl l1 n st sb,t1):Z5)):=by
  rw [← hW8];exact OwZ.flags Z7.out i HIZ.out ((g1,u1,Value.slice a7 m c7,sl l1 n st sb,t1):Z5) (by rw [HZI.out]) (by rw [HZI.out]) (by rw [HZI.out]) (own_base O7.out HWB2.out) (fun e=>by have h1:=(O7.out.lt gr e).1;have h2:=HGL6.out;have h3:w6.heap.size≤gr:=h1;omega) (fun y hy j hj hj'=>by have h1:w6.heap.size≤j:=(O7.out.lt j hj).1;have h2:=((HOZ.out.each y hy).lt j hj').2;omega)
 have i8:OwI W8 (w.heap.size+1+1+1) (.slice ag gn cg) G:=row_kept (own_later T6.out.gl B7.out) g8 (fun j hj e=>HDJ.out j hj (by rw [← e];rfl));have x8:Bx W8 OB 38 g nm t b nx (.slice (some ⟨gr,0,none⟩) Z.length vc) (.slice ag gn cg):=(X6.out.later B7.out).grown g8 (fun e=>HGO2.out (by simpa using e.symm));have r8:Bx W8 (w.heap.size+1+1) 38 0 ⟨#[]⟩ 0 0 0 (.slice none 0 0) (.slice none 0 0):=(T6.out.ans.later B7.out).grown g8 (fun e=>by have h1:=HGB.out;simp only [Option.some.injEq] at e;omega);have b8:Below w.heap.size w W8:=(btr T6.out.bel B7.out).trans (below_of_grown g8 (by have h1:=HGB.out;omega) (btr T6.out.bel B7.out).size)
 have HDZ:Hid (∀ z∈Z.set i ((g1,u1,Value.slice a7 m c7,sl l1 n st sb,t1):Z5),Dj (.slice ag gn cg) z.2.2.1):=fun z hz j hj hj'=>by
  rcases mem_set hz with hz | rfl
  ·exact HDE.out z hz j hj hj'
  have h1:=(T6.out.gl.lt j hj).2;have h2:w6.heap.size≤j:=(O7.out.lt j hj').1
  omega
 have HZ8:Hid ((Z.set i ((g1,u1,Value.slice a7 m c7,sl l1 n st sb,t1):Z5)).map md=fmL true L gid n st sb):=by
  show _=_
  rw [List.map_set,HZL.out,HLS.out,HIA.out,fmL_split HMG.out HNA.out HNC.out,List.set_append_right _ _ (Nat.le_refl _),Nat.sub_self,List.set_cons_zero]
  rfl
 simp only [hW8];have Z8:=hid z8;have I8:=hid i8;have R8:=hid r8;have B8:=hid b8;have k8:=x8.cells;have q1:=r8.cells;have q2:=r8.loose;clear hHeld hW8 g8 z8 i8 x8 r8 b8 cz fz7 c0 k0
 go_wp2
 have e2:=set7_grown W8 (w.heap.size+1+1) g nm t b nx (.slice (some ⟨gr,0,none⟩) Z.length vc) (.slice ag gn cg);have d1:=(R8.out.set7 g nm t b nx (.slice (some ⟨gr,0,none⟩) Z.length vc) (.slice ag gn cg)).cells;unfold set7 at d1 e2;have hbs:=B8.out.size;refine bodyPost_ret (v:=.tuple #[.agg #[.int .i64 g,.string nm,.int .i64 t,.int .i64 b,.int .i64 nx,.slice (some ⟨gr,0,none⟩) Z.length vc,.slice ag gn cg],.bool true]) (by simp [results,Tryz.results133,go_sem,d1]) rfl ⟨_,_,by rw [HE.out],?_,?_⟩
 ·rw [HE.out]
  exact (OwB.grown ⟨Z.set i ((g1,u1,Value.slice a7 m c7,sl l1 n st sb,t1):Z5),HZ8.out,Z8.out,I8.out,HDJ.out,HDZ.out⟩ e2 (by omega)).base (by omega)
 exact B8.out.trans (below_of_grown e2 (by omega) hbs)
def pin (x:Int) (G:List Int):List Int:=G.filter (fun y=>decide (y<x))++x::G.filter (fun y=>decide (x<y))
theorem asc_low {G:List Int} {a:Int} (h:asc a G=true):∀ y∈G,a<y:=by
 induction G generalizing a with
 | nil=>intro y hy;simp at hy
 | cons x G ih =>
  simp only [asc,Bool.and_eq_true,decide_eq_true_eq] at h;intro y hy
  rcases List.mem_cons.1 hy with rfl | hy
  ·exact h.1.1
  have:=ih h.2 y hy
  omega
theorem asc_pair {G:List Int} {a:Int} (h:asc a G=true):G.Pairwise (·<·):=by
 induction G generalizing a with
 | nil=>exact List.Pairwise.nil
 | cons x G ih =>
  simp only [asc,Bool.and_eq_true,decide_eq_true_eq] at h;exact List.pairwise_cons.2 ⟨fun y hy=>asc_low h.2 y hy,ih h.2⟩
theorem inl_not {x:Int} {G:List Int} (h:inl x G=false):∀ y∈G,y≠x:=by
 induction G with
 | nil=>intro y hy;simp at hy
 | cons z G ih =>
  simp only [inl,Bool.or_eq_false_iff,decide_eq_false_iff_not] at h;intro y hy
  rcases List.mem_cons.1 hy with rfl | hy
  ·exact h.1
  exact ih h.2 y hy
theorem pin_place {x:Int} {G:List Int} (hp:G.Pairwise (·<·)) (hn:∀ y∈G,y≠x):pin x G=G.take (G.countP (·<x))++x::G.drop (G.countP (·<x)):=by
 unfold pin
 have key:∀ {G:List Int},G.Pairwise (·<·)→(∀ y∈G,y≠x)→G.filter (fun y=>decide (y<x))=G.take (G.countP (·<x))∧G.filter (fun y=>decide (x<y))=G.drop (G.countP (·<x)):=by
  intro G
  induction G with
  | nil=>intros;exact ⟨rfl,rfl⟩
  | cons a G ih =>
   intro hp hn;obtain ⟨h1,h2⟩:=List.pairwise_cons.1 hp;obtain ⟨i1,i2⟩:=ih h2 (fun y hy=>hn y (List.mem_cons_of_mem _ hy))
   by_cases hax:a<x
   ·have hxa:¬ x<a:=by omega
    rw [List.filter_cons_of_pos (by simpa using hax),List.filter_cons_of_neg (by simpa using hxa),List.countP_cons_of_pos (by simpa using hax),List.take_succ_cons,List.drop_succ_cons,i1,i2];exact ⟨rfl,rfl⟩
   have hxa:x<a:=by have:=hn a (List.mem_cons_self ..);omega
   have hall:∀ y∈G,x<y:=fun y hy=>by have:=h1 y hy;omega
   have hc:G.countP (·<x)=0:=List.countP_eq_zero.2 (fun y hy=>by have:=hall y hy;simp;omega);rw [List.filter_cons_of_neg (by simpa using hax),List.filter_cons_of_pos (by simpa using hxa),List.countP_cons_of_neg (by simpa using hax),hc,i1,i2,hc];exact ⟨rfl,rfl⟩
 rw [(key hp hn).1,(key hp hn).2]
def tkOk (g:Int) (nm:ByteArray) (t b nx:Int) (L:List M4) (G:List Int) (gid:Int):Bool :=
 bxOk g nm t b nx L G&&(L.any (fun m=>decide (m.1=gid))&&decide (G.length<40))
def tkL (p:Bool) (L:List M4) (gid:Int):List M4:=if p=true then L.filter (fun m=>decide (m.1≠gid)) else L
def tkG (p:Bool) (G:List Int) (gid:Int):List Int:=if p=true then pin gid G else G
theorem tkL_no (L:List M4) (gid:Int):tkL false L gid=L:=by rw [tkL,if_neg (by decide)]
theorem tkG_no (G:List Int) (gid:Int):tkG false G gid=G:=by rw [tkG,if_neg (by decide)]
theorem tkL_split {A C:List M4} {m:M4} {gid:Int} (hm:m.1=gid) (ha:∀ x∈A,x.1≠gid) (hc:∀ x∈C,x.1≠gid):tkL true (A++m::C) gid=A++C:=by
 rw [tkL,if_pos rfl,List.filter_append,List.filter_cons_of_neg (by simpa using hm),List.filter_eq_self.2 (fun x hx=>by simpa using ha x hx),List.filter_eq_self.2 (fun x hx=>by simpa using hc x hx)]
theorem tk_sub (p:Bool) (L:List M4) (gid:Int):(tkL p L gid).Sublist L:=by
 unfold tkL
 split
 ·exact List.filter_sublist
 exact List.Sublist.refl _
theorem upr_sub {K L:List M4} (h:K.Sublist L) (hs:Upr L):Upr K:=List.Pairwise.sublist h hs
theorem OwMp.drop {W:World} {B b c:Nat} {E1:List En} {e0:En} {E2:List En} (h:OwMp W B b (E1++e0::E2) c):OwMp (setBlock W b (.map ((E1++E2).map ent).toArray c)) B b (E1++E2) c:=by
 have hsub:(E1++E2).Sublist (E1++e0::E2):=(List.Sublist.refl E1).append (List.sublist_cons_self ..);refine ⟨heap_setBlock_same h.lies _,h.base,fun e he=>h.old e (hsub.subset he),h.births.sublist (hsub.map _),h.keys.sublist (hsub.map _),fun e he=>?_,List.Pairwise.sublist hsub h.apart⟩;have ho:=h.each e (hsub.subset he);exact World.ownsRow.kept ho (setBlock_grown h.lies _) (Or.inr (h.off ho))
theorem cell_one_int (w:World) (n:Int) (e:Nat):∀ (j:Nat) (u:Value),([Value.int .i64 n]:List Value)[j]?=some u→(w.alloc (.cells #[.int .i64 n] e)).cell? ((⟨w.heap.size,0,none⟩:Addr).add j)=some u:=by
 intro j u hj
 match j,hj with
 | 0,hj =>
  simp only [List.getElem?_cons_zero,Option.some.injEq] at hj;subst hj;exact cell_of_row _ w.heap.size 0 _ _ _ (heap_alloc_new w _)
 | j+1,hj=>simp at hj
theorem wpList_append_int (w:World) {ops:Array Oper} {rest:List Oper} {o:Oper} {a:Act} {Q:Exit→Act→World→Prop} (hgd:o.guard=none) (s x:Operand)
  (ho:o.op=.call { callee:=.builtin .append,args:=#[s,x],argTypes:=#[25,25] })
  (base:Nat) (v:Value) (bs:List Int) (hs:a.eval s=v) (hown:OwI w base v bs) (n:Int)
  (hx:a.eval x=.slice (some ⟨w.heap.size,0,none⟩) 1 1) (hlen:bs.length≤2097154) (hbase:base≤w.heap.size)
  (h:∀ v' w',OwI w' base v' (bs++[n])→Below base w w'→wpList Tryz.prog ops Q rest (a.put o.dst v') w') :
  wpList Tryz.prog ops Q (o::rest) a (w.alloc (.cells #[.int .i64 n] 3)):=by
 obtain ⟨i0,hi,hz0,hz1,hz2⟩:=info_parts3 info_int;refine wpList_append_own _ hgd s x 25 ho base 3 i0 (.int .i64 0) 1 8 Tryz.underlying25 hi hz0 hz1 hz2 rfl (by decide) v _ _ hs (hown.alloc _) ⟨w.heap.size,0,none⟩ 1 1 [.int .i64 n] hx rfl (cell_one_int _ _ _) (by intro u hu;simp at hu;subst hu;rfl) (by unfold maxLen;omega) (by omega) (by simp;omega) ?_;intro v' w' hown' hg _;refine h v' w' (by simpa [OwI] using hown') (((Below.refl base w).alloc hbase _).grown hg (by simp;omega) (fun k hk=>(hown.lt k hk).1))
theorem filter_take {G:List Int} {i:Nat} (h:i<G.length) (f:Int→Bool):(G.take (i+1)).filter f=(G.take i).filter f++(if f G[i]=true then [G[i]] else []):=by
 rw [List.take_succ_eq_append_getElem h,List.filter_append]
 cases hf:f G[i] with
 | true=>simp [hf]
 | false=>simp [hf]
theorem gfl_len (G:List Int) (f:Int→Bool) (i:Nat):((G.take i).filter f).length≤G.length :=
 Nat.le_trans (List.length_filter_le _ _) (by rw [List.length_take];omega)
theorem l06Put_any (lo hh:Nat) (ga:Option Addr) (gn gc:Nat) (G:List Int) (x:Int) (w:World) (hgl:G.length=gn) (hgn:gn≤1048576) (hs:Is lo hh w ga G) :
  Calls Tryz.prog 165 #[.slice ga gn gc,.int .i64 x] w fun e w'=>∃ gv,e=.returned gv∧OwI w' w.heap.size gv (pin x G)∧Below w.heap.size w w':=by
 have HGL:=hid hgl;have HIS:=hid hs;clear hgl hs
 go_enter Tryz.func165,Tryz.ntmps165
 go_wp2
 go_loopw [5,6] (fun ov iv wr=>∃ i:Nat,i≤gn∧iv=.int .i64 (i:Int)∧OwI wr w.heap.size ov ((G.take i).filter (fun y=>decide (y<x)))∧Below w.heap.size w wr) (fun _ iv _=>gn - (intOf iv).toNat)
 case atStart=>exact ⟨0,Nat.zero_le _,rfl,by simpa using ownI_empty w _ (Nat.le_refl _),bpush (bre _) _⟩
 case round =>
  obtain ⟨i,hi,rfl,hown,hb⟩:=hrel;have HO:=hid hown;have HB:=hid hb;have HSZ:=hid hb.size;clear hown hb
  by_cases hlt:i<gn
  ·have hil:i<G.length:=by rw [HGL.out];exact hlt
   obtain ⟨k,o,rfl,hk,c⟩:=(HIS.out.later HB.out).at hil;have hft:=filter_take hil (fun y=>decide (y<x));obtain ⟨y,hy⟩:∃ y,G[i]=y:=⟨_,rfl⟩;rw [hy] at c hft;have HL:=hid (gfl_len G (fun y=>decide (y<x)) i);clear hy
   have hI:(0:Int)≤(i:Int)∧(i:Int)<(gn:Int):=by omega
   by_cases hyx:y<x
   ·rw [if_pos (by simpa using hyx)] at hft
    have HFT:=hid hft;clear hft
    go_wp2_with (at_builtin;refine wpList_append_int wr rfl (.tmp 21) (.tmp 26) rfl w.heap.size _ _ (by rfl) HO.out y rfl (by have h1:=HL.out;have h2:=HGL.out;omega) HSZ.out ?_;intro v4 w4 hown4 hb4;have HO4:=hid hown4;have HB4:=hid hb4;clear hown4 hb4)
    go_roundw
    case rel=>exact ⟨i+1,by omega,by go_num,by rw [HFT.out];exact HO4.out,HB.out.trans HB4.out⟩
    case measure=>simp [intOf];omega
   rw [if_neg (by simpa using hyx),List.append_nil] at hft;have HFT:=hid hft;clear hft
   go_wp2
   go_roundw
   case rel=>exact ⟨i+1,by omega,by go_num,by rw [HFT.out];exact HO.out,HB.out⟩
   case measure=>simp [intOf];omega
  have HE:Hid (G.take i=G):=List.take_of_length_le (by rw [HGL.out];omega);have HL:=hid (gfl_len G (fun y=>decide (y<x)) i)
  go_wp2_with (at_builtin;refine wpList_append_int wr rfl (.tmp 28) (.tmp 30) rfl w.heap.size _ _ (by rfl) HO.out x rfl (by have h1:=HL.out;have h2:=HGL.out;omega) HSZ.out ?_;intro v4 w4 hown4 hb4;have HO4:=hid hown4;have HB4:=hid hb4;clear hown4 hb4)
  have HB5:=hid (HB.out.trans HB4.out)
  have HO5:Hid (OwI w4 w.heap.size v4 (G.filter (fun y=>decide (y<x))++[x])):=by
   have h:=HO4.out;rw [HE.out] at h;exact h
  have hln:(G.filter (fun y=>decide (y<x))).length≤G.length:=List.length_filter_le _ _;have HLN:=hid hln;clear hln HO HB HSZ HO4 HB4 HE HL
  go_loopw [5,7] (fun ov iv wr=>∃ i:Nat,i≤gn∧iv=.int .i64 (i:Int)∧OwI wr w.heap.size ov (G.filter (fun y=>decide (y<x))++x::(G.take i).filter (fun y=>decide (x<y)))∧Below w.heap.size w wr) (fun _ iv _=>gn - (intOf iv).toNat)
  case atStart=>exact ⟨0,Nat.zero_le _,rfl,by simpa using HO5.out,HB5.out⟩
  case round =>
   obtain ⟨i,hi,rfl,hown,hb⟩:=hrel;have HO:=hid hown;have HB:=hid hb;have HSZ:=hid hb.size;clear hown hb
   by_cases hlt:i<gn
   ·have hil:i<G.length:=by rw [HGL.out];exact hlt
    obtain ⟨k,o,rfl,hk,c⟩:=(HIS.out.later HB.out).at hil;have hft:=filter_take hil (fun y=>decide (x<y));obtain ⟨y,hy⟩:∃ y,G[i]=y:=⟨_,rfl⟩;rw [hy] at c hft;have HL:=hid (gfl_len G (fun y=>decide (x<y)) i);clear hy
    have hI:(0:Int)≤(i:Int)∧(i:Int)<(gn:Int):=by omega
    by_cases hyx:x<y
    ·rw [if_pos (by simpa using hyx)] at hft
     have HFT:=hid hft;clear hft
     go_wp2_with (at_builtin;refine wpList_append_int wr rfl (.tmp 44) (.tmp 49) rfl w.heap.size _ _ (by rfl) HO.out y rfl (by have h1:=HL.out;have h2:=HGL.out;have h3:=HLN.out;rw [List.length_append,List.length_cons];omega) HSZ.out ?_;intro v4 w4 hown4 hb4;have HO4:=hid hown4;have HB4:=hid hb4;clear hown4 hb4)
     go_roundw
     case rel=>exact ⟨i+1,by omega,by go_num,by rw [HFT.out];have h:=HO4.out;rw [List.append_assoc,List.cons_append] at h;exact h,HB.out.trans HB4.out⟩
     case measure=>simp [intOf];omega
    rw [if_neg (by simpa using hyx),List.append_nil] at hft;have HFT:=hid hft;clear hft
    go_wp2
    go_roundw
    case rel=>exact ⟨i+1,by omega,by go_num,by rw [HFT.out];exact HO.out,HB.out⟩
    case measure=>simp [intOf];omega
   have HE:Hid (G.take i=G):=List.take_of_length_le (by rw [HGL.out];omega)
   go_wp2
   go_ret
   exact ⟨_,rfl,by have h:=HO.out;rw [HE.out] at h;exact h,HB.out⟩
theorem step_append_rows {ops:Array Oper} {o:Oper} {a:Act} {w:World} {K:Act→World→Prop} {Q:Exit→Act→World→Prop} {E:Prop}
  (hg:o.guard=none) (s x:Operand) (hop:o.op=Op.call { callee:=Callee.builtin Builtin.append,args:=#[s,x],argTypes:=#[36,36] })
  (B:Nat) (v:Value) (n:Nat) (xs:List Value) (hs:a.eval s=v) (hown:w.ownsRow B 78 4 v n xs)
  (ad:Addr) (k c:Nat) (ys:List Value) (hx:a.eval x=.slice (some ad) k c) (hyl:ys.length=k*4) (hsrc:∀ j u,ys[j]?=some u→w.cell? (ad.add j)=some u) (h1:∀ u∈ys,u.oneCell'=true) (hlen:n+k≤1048576) (hB:B≤w.heap.size)
  (hK:∀ v' w',w'.ownsRow B 78 4 v' (n+k) (xs++ys)→w.grownBy w' v.ownBlock→(v'.ownBlock=v.ownBlock∨v'.ownBlock=some w.heap.size)→K (a.put o.dst v') w') :
  if Region.wanted o (yielded ops a.tmps)=true then Oper.wp Tryz.prog o a w K Q else E:=by
 have hw:Region.wanted o (yielded ops a.tmps)=true:=by simp [Region.wanted,hg]
 rw [if_pos hw];obtain ⟨i0,hi,hz0,hz1,hz2⟩:=info_parts3 info_ml;obtain ⟨v',w',hr,h2,h3,h4,h5⟩:=run_append_own_at (P:=Tryz.prog) w B 36 o.type 78 i0 _ 4 56 Tryz.underlying36 hi hz0 hz1 hz2 rfl (by decide) v n xs hown ad k c ys hyl hsrc h1 (by unfold maxLen;omega) (by omega) hB;unfold Oper.wp execOp;simp only [hop,resolve,invoke,builtin,Sem.run_bind,Sem.run_pure,Result.andThen_ok,List.map_toArray,List.map_cons,List.map_nil,hs,hx,hr];exact hK v' w' h2 h3 h5
theorem row_shape {W:World} {B e size n:Nat} {v:Value} {xs:List Value} (h:W.ownsRow B e size v n xs):∃ a c,v=.slice a n c:=by
 rcases h.2 with ⟨h1,h2⟩ | ⟨g,cap,cur,h1,_⟩
 ·exact ⟨none,0,by rw [h1,h2]⟩
 exact ⟨_,_,h1⟩
theorem OwZ.cell {W:World} {B g n c:Nat} {Z:List Z5} (h:OwZ W B (.slice (some ⟨g,0,none⟩) n c) Z) (j:Nat) (hj:j<Z.length*4):W.cell? ⟨g,j,none⟩=(zc Z)[j]?:=by
 obtain rfl:=h.ms.1;exact h.row.cellAt j hj
theorem zc_take (Z:List Z5) (i:Nat):zc (Z.take i)=(zc Z).take (i*4):=by
 induction Z generalizing i with
 | nil=>simp [zc]
 | cons z Z ih =>
  cases i with
  | zero=>simp [zc]
  | succ i=>rw [show (i+1)*4=i*4+1+1+1+1 by omega];simp [zc,ih]
theorem zc_drop (Z:List Z5) (i:Nat):zc (Z.drop i)=(zc Z).drop (i*4):=by
 induction Z generalizing i with
 | nil=>simp [zc]
 | cons z Z ih =>
  cases i with
  | zero=>simp [zc]
  | succ i=>rw [show (i+1)*4=i*4+1+1+1+1 by omega];simp [zc,ih]
theorem row_front {W:World} {B g n c:Nat} {Z:List Z5} (h:OwZ W B (.slice (some ⟨g,0,none⟩) n c) Z) (i:Nat):∀ j u,(zc (Z.take i))[j]?=some u→W.cell? ((⟨g,0,none⟩:Addr).add j)=some u:=by
 intro j u hu;rw [zc_take,List.getElem?_take] at hu
 by_cases hj:j<i*4
 ·rw [if_pos hj] at hu
  have hl:j<Z.length*4:=by rw [← zc_len];exact (List.getElem?_eq_some_iff.1 hu).1
  rw [addr_add,Nat.zero_add,h.cell j hl];exact hu
 rw [if_neg hj] at hu
 cases hu
theorem row_back {W:World} {B g n c:Nat} {Z:List Z5} (h:OwZ W B (.slice (some ⟨g,0,none⟩) n c) Z) (i:Nat):∀ j u,(zc (Z.drop i))[j]?=some u→W.cell? ((⟨g,i*4,none⟩:Addr).add j)=some u:=by
 intro j u hu;rw [zc_drop,List.getElem?_drop] at hu
 have hl:i*4+j<Z.length*4:=by rw [← zc_len];exact (List.getElem?_eq_some_iff.1 hu).1
 rw [addr_add,h.cell _ hl];exact hu
theorem mid_cut (A:List M4) (m:M4) (C:List M4):(A++m::C).take A.length++(A++m::C).drop (A.length+1)=A++C:=by
 rw [List.take_left,show A++m::C=(A++[m])++C by simp,show A.length+1=(A++[m]).length by simp,List.drop_left]
theorem OwZ.moved {W W':World} {B:Nat} {v v':Value} {Z X:List Z5} (h:OwZ W B v Z) (hx:X.Sublist Z) (hrow:W'.ownsRow B 78 4 v' X.length (zc X)) (hk:∀ z∈Z,∀ j,z.2.2.1.ownBlock=some j→W'.heap[j]?=W.heap[j]?∧v'.ownBlock≠some j):OwZ W' B v' X :=
 ⟨hrow,fun z hz=>ow_same (h.each z (hx.subset hz)) (fun j hj=>(hk z (hx.subset hz) j hj).1),fun z hz j hj hj'=>(hk z (hx.subset hz) j hj').2 hj,List.Pairwise.sublist hx h.apart⟩
end Go.Proofs.YtdkedgedkgabnaaGreatDoor
