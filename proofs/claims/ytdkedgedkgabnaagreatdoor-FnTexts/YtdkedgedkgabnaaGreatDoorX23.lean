/- Tiv. -/
import Derived.Test.YtdkedgedkgabnaaGreatDoorX19
namespace Go.Proofs.YtdkedgedkgabnaaGreatDoor
open Go.RowKit Go.ChangeMaps
set_option maxHeartbeats 16000000
set_option maxRecDepth 100000
theorem step_append_boxes {ops:Array Oper} {o:Oper} {a:Act} {w:World} {K:Act→World→Prop} {Q:Exit→Act→World→Prop} {E:Prop}
  (hg:o.guard=none) (s x:Operand) (hop:o.op=Op.call { callee:=Callee.builtin Builtin.append,args:=#[s,x],argTypes:=#[24,24] })
  (B:Nat) (v:Value) (n:Nat) (xs:List Value) (hs:a.eval s=v) (hown:w.ownsRow B 38 7 v n xs)
  (ad:Addr) (k c:Nat) (ys:List Value) (hx:a.eval x=.slice (some ad) k c) (hyl:ys.length=k*7) (hsrc:∀ j u,ys[j]?=some u→w.cell? (ad.add j)=some u) (h1:∀ u∈ys,u.oneCell'=true) (hlen:n+k≤1048576) (hB:B≤w.heap.size)
  (hK:∀ v' w',w'.ownsRow B 38 7 v' (n+k) (xs++ys)→w.grownBy w' v.ownBlock→(v'.ownBlock=v.ownBlock∨v'.ownBlock=some w.heap.size)→K (a.put o.dst v') w') :
  if Region.wanted o (yielded ops a.tmps)=true then Oper.wp Tryz.prog o a w K Q else E:=by
 have hw:Region.wanted o (yielded ops a.tmps)=true:=by simp [Region.wanted,hg]
 rw [if_pos hw];obtain ⟨i0,hi,hz0,hz1,hz2⟩:=info_parts3 info_bx;obtain ⟨v',w',hr,h2,h3,h4,h5⟩:=run_append_own_at (P:=Tryz.prog) w B 24 o.type 38 i0 _ 7 96 Tryz.underlying24 hi hz0 hz1 hz2 rfl (by decide) v n xs hown ad k c ys hyl hsrc h1 (by unfold maxLen;omega) (by omega) hB;unfold Oper.wp execOp;simp only [hop,resolve,invoke,builtin,Sem.run_bind,Sem.run_pure,Result.andThen_ok,List.map_toArray,List.map_cons,List.map_nil,hs,hx,hr];exact hK v' w' h2 h3 h5
theorem OwS.cell {W:World} {B g n c:Nat} {Y:List Y9} (h:OwS W B (.slice (some ⟨g,0,none⟩) n c) Y) (j:Nat) (hj:j<Y.length*7):W.cell? ⟨g,j,none⟩=(yc Y)[j]?:=by
 obtain rfl:=h.bs.1;exact h.row.cellAt j hj
theorem yc_takeA (Y:List Y9) (i:Nat):yc (Y.take i)=(yc Y).take (i*7):=by
 induction Y generalizing i with
 | nil=>simp [yc]
 | cons z Z ih =>
  cases i with
  | zero=>simp [yc]
  | succ i=>rw [show (i+1)*7=i*7+1+1+1+1+1+1+1 by omega];simp [yc,ih]
theorem yc_dropA (Y:List Y9) (i:Nat):yc (Y.drop i)=(yc Y).drop (i*7):=by
 induction Y generalizing i with
 | nil=>simp [yc]
 | cons z Z ih =>
  cases i with
  | zero=>simp [yc]
  | succ i=>rw [show (i+1)*7=i*7+1+1+1+1+1+1+1 by omega];simp [yc,ih]
theorem row_frontY {W:World} {B g n c:Nat} {Y:List Y9} (h:OwS W B (.slice (some ⟨g,0,none⟩) n c) Y) (i:Nat):∀ j u,(yc (Y.take i))[j]?=some u→W.cell? ((⟨g,0,none⟩:Addr).add j)=some u:=by
 intro j u hu;rw [yc_takeA,List.getElem?_take] at hu
 by_cases hj:j<i*7
 ·rw [if_pos hj] at hu
  have hl:j<Y.length*7:=by rw [← yc_len];exact (List.getElem?_eq_some_iff.1 hu).1
  rw [addr_add,Nat.zero_add,h.cell j hl];exact hu
 rw [if_neg hj] at hu
 cases hu
theorem row_backY {W:World} {B g n c:Nat} {Y:List Y9} (h:OwS W B (.slice (some ⟨g,0,none⟩) n c) Y) (i:Nat):∀ j u,(yc (Y.drop i))[j]?=some u→W.cell? ((⟨g,i*7,none⟩:Addr).add j)=some u:=by
 intro j u hu;rw [yc_dropA,List.getElem?_drop] at hu
 have hl:i*7+j<Y.length*7:=by rw [← yc_len];exact (List.getElem?_eq_some_iff.1 hu).1
 rw [addr_add,h.cell _ hl];exact hu
theorem OwS.moved {W W':World} {B:Nat} {v v':Value} {Y X:List Y9} (h:OwS W B v Y) (hx:X.Sublist Y) (hrow:W'.ownsRow B 38 7 v' X.length (yc X)) (hs:W.heap.size≤W'.heap.size) (hk:∀ y∈Y,(∀ j,y.lo≤j→j<y.hi→W'.heap[j]?=W.heap[j]?)∧∀ j,v'.ownBlock=some j→j<y.lo∨y.hi≤j):OwS W' B v' X :=
 ⟨hrow,fun y hy=>⟨(h.each y (hx.subset hy)).1.same (Nat.le_trans (h.each y (hx.subset hy)).1.top hs) (hk y (hx.subset hy)).1,(h.each y (hx.subset hy)).2⟩,fun y hy=>(hk y (hx.subset hy)).2,List.Pairwise.sublist hx h.apart⟩
theorem specDropB_any (lo hh lo' hh':Nat) (y tm:Int) (ba:Option Addr) (bn bc:Nat) (ga:Option Addr) (gn gc:Nat) (S:List X7) (G:List Int) (gid:Int) (w:World) (hl:S.length=bn) (hn:bn≤1048576) (hsb:Sb S) (hm:Bs lo hh w ba S) (hgl:G.length=gn) (hgn:gn≤1048576) (hs:Is lo' hh' w ga G) (hg0:ga=none→gc=0)
  (ok2:Bool) (h2:(sOk y tm S G&&(dbO S gid&&decide (G.length<20)))=ok2) :
  Calls Tryz.prog 155 #[.agg #[.int .i64 y,.int .i64 tm,.slice ba bn bc,.slice ga gn gc],.int .i64 gid] w fun e w'=>∃ bv gv,e=.returned (.tuple #[.agg #[.int .i64 y,.int .i64 (pik ok2 tm tm),bv,gv],.bool ok2])∧OwT w' w.heap.size bv gv (pik ok2 (dbS S gid) S) (pik ok2 (pin gid G) G)∧Below w.heap.size w w':=by
 obtain ⟨W0,hW0⟩:∃ W0,(w.alloc (.cells #[.int .i64 y,.int .i64 tm,.slice ba bn bc,.slice ga gn gc] 27)).alloc (.cells #[.int .i64 0,.int .i64 0,.slice none 0 0,.slice none 0 0] 27)=W0:=⟨_,rfl⟩;obtain ⟨a0,r0,b0,s0⟩:=two_stores w _ _ _ _ _ _ _ _ _ _ W0 hW0;obtain ⟨p,hp⟩:∃ p,sOk y tm S G=p:=⟨_,rfl⟩;rw [hp] at h2;have HP:=hid hp;have H2:=hid h2;obtain ⟨zz,hzz⟩:∃ zz,fidx (isG gid) S 0=zz:=⟨_,rfl⟩;have HZ:=hid hzz;have c0:=a0.cells;have A0:=hid a0;have R0:=hid r0;have B0:=hid b0;have S0:=hid s0;have HL:=hid hl;have HN:=hid hn;have HSB:=hid hsb;have HR:=hid hm;have HGL:=hid hgl;have HGN:=hid hgn;have HIS:=hid hs;have HG0:=hid hg0;clear a0 r0 b0 s0 hp h2 hzz hl hn hsb hm hgl hgn hs hg0
 go_enter Tryz.func155,Tryz.ntmps155
 go_wp2_with fail
 clear hW0;refine (l07Copy_any lo hh lo' hh' y tm ba bn bc ga gn gc S G _ HL.out HN.out HSB.out (HR.out.later B0.out) HGL.out HGN.out (HIS.out.later B0.out) HG0.out).mono ?_;rintro e w1 ⟨bv1,gv1,rfl,hot,hb1⟩;obtain ⟨a8,c8,a9,c9,hv8,hv9⟩:=hot.shape;rw [HL.out] at hv8;rw [HGL.out] at hv9;subst hv8;subst hv9;obtain ⟨W2,hW2⟩:∃ W2,w1.alloc (.cells #[.int .i64 y,.int .i64 tm,.slice a8 bn c8,.slice a9 gn c9] 27)=W2:=⟨_,rfl⟩
 have b2:Below w1.heap.size w1 W2:=by subst hW2;exact bpush (bre _) _
 have o2:Sx W2 w1.heap.size 27 y tm (.slice a8 bn c8) (.slice a9 gn c9):=by subst hW2;exact Sx.new _ _ _ _ _ _
 have HN2:=hid ((hot.far (P:=fun j=>j=w1.heap.size∨j=w.heap.size+1) (fun j hj=>by have:=S0.out;omega)).later b2);have A2:=hid (A0.out.later (btr hb1 b2));have R2:=hid (R0.out.later (btr hb1 b2));have B2:=hid (btr B0.out (btr hb1 b2));have O2:=hid o2;have HW1:Hid (W0.heap.size≤w1.heap.size):=hb1.size;obtain ⟨ko,hko⟩:∃ ko,w1.heap.size=ko:=⟨_,rfl⟩;rw [hko] at O2 HN2 HW1;have c2:=A2.out.cells;clear hot hb1 b2 o2 A0 R0 B0 c0
 go_wp2_with fail
 (try rw [hW2])
 clear hW2 hko;refine (specBoxAt_any lo hh y tm ba bn bc (.slice ga gn gc) S gid _ HL.out HN.out (HR.out.later B2.out)).mono ?_;rintro e w3 ⟨rfl,hb3⟩;rw [HZ.out];have A3:=hid (A2.out.later hb3);have R3:=hid (R2.out.later hb3);have B3:=hid (btr B2.out hb3);have O3:=hid (O2.out.later hb3);have HN3:=hid (HN2.out.later hb3);have c0:=A3.out.cells;clear hb3 A2 R2 B2 O2 HN2 c2
 go_wp2_with fail
 refine (specStoreOk_any lo hh lo' hh' y tm ba bn bc ga gn gc S G _ HL.out HN.out HSB.out (HR.out.later B3.out) HGL.out HGN.out (HIS.out.later B3.out)).mono ?_;rintro e w4 ⟨rfl,hb4⟩;rw [HP.out];have A4:=hid (A3.out.later hb4);have R4:=hid (R3.out.later hb4);have B4:=hid (btr B3.out hb4);have O4:=hid (O3.out.later hb4);have HN4:=hid (HN3.out.later hb4);clear hb4 A3 R3 B3 O3 HN3 c0
 cases p
 case false =>
  have HE:Hid (ok2=false):=by show _=_;rw [← H2.out];rfl
  have o9:=O4.out.cells;have q1:=R4.out.cells;have q2:=R4.out.loose;have HK9:=hid R4.out.lt
  go_wp2
  have e2:=put4_grown w4 (w.heap.size+1) y (tm) (.slice a8 bn c8) (.slice a9 gn c9);have d1:=(R4.out.put4 y (tm) (.slice a8 bn c8) (.slice a9 gn c9)).cells;unfold put4 at d1 e2;have hs0:=S0.out;have hk9:=HK9.out;refine bodyPost_ret (v:=.tuple #[.agg #[.int .i64 y,.int .i64 (tm),.slice a8 bn c8,.slice a9 gn c9],.bool false]) (by simp [results,Tryz.results155,go_sem,d1]) rfl ⟨_,_,by rw [HE.out];rfl,?_,?_⟩
  ·rw [HE.out]
   show OwT _ _ _ _ (S) (G)
   exact (HN4.out.set e2 (.inr rfl)).ot.base (by omega)
  have hbs:=B4.out.size;exact B4.out.trans (below_of_grown e2 (by omega) hbs)
 have htm:=sOk_tm HP.out
 rcases fidx_cases (isG gid) S 0 with hneg | ⟨i,hi,hiz,hpi⟩
 ·have HE:Hid (ok2=false):=by show _=_;rw [← H2.out,(db_no hneg).1];simp
  rw [HZ.out] at hneg;have hneg2:zz<0:=hneg;have o9:=O4.out.cells;have q1:=R4.out.cells;have q2:=R4.out.loose;have HK9:=hid R4.out.lt
  go_wp2
  have e2:=put4_grown w4 (w.heap.size+1) y (tm) (.slice a8 bn c8) (.slice a9 gn c9);have d1:=(R4.out.put4 y (tm) (.slice a8 bn c8) (.slice a9 gn c9)).cells;unfold put4 at d1 e2;have hs0:=S0.out;have hk9:=HK9.out;refine bodyPost_ret (v:=.tuple #[.agg #[.int .i64 y,.int .i64 (tm),.slice a8 bn c8,.slice a9 gn c9],.bool false]) (by simp [results,Tryz.results155,go_sem,d1]) rfl ⟨_,_,by rw [HE.out];rfl,?_,?_⟩
  ·rw [HE.out]
   show OwT _ _ _ _ (S) (G)
   exact (HN4.out.set e2 (.inr rfl)).ot.base (by omega)
  have hbs:=B4.out.size;exact B4.out.trans (below_of_grown e2 (by omega) hbs)
 rw [Nat.zero_add] at hiz;have hdb:=db_at hiz;have HDB:=hid hdb.2;rw [HZ.out] at hiz
 have hznn:¬ zz<0:=by omega
 subst hiz
 by_cases h20:(20:Int)≤(gn:Int)
 ·have HE:Hid (ok2=false):=by show _=_;rw [← H2.out,hdb.1,decide_eq_false (by rw [HGL.out];omega)];rfl
  have c0:=A4.out.cells;have o9:=O4.out.cells;have q1:=R4.out.cells;have q2:=R4.out.loose;have HK9:=hid R4.out.lt
  go_wp2
  have e2:=put4_grown w4 (w.heap.size+1) y (tm) (.slice a8 bn c8) (.slice a9 gn c9);have d1:=(R4.out.put4 y (tm) (.slice a8 bn c8) (.slice a9 gn c9)).cells;unfold put4 at d1 e2;have hs0:=S0.out;have hk9:=HK9.out;refine bodyPost_ret (v:=.tuple #[.agg #[.int .i64 y,.int .i64 (tm),.slice a8 bn c8,.slice a9 gn c9],.bool false]) (by simp [results,Tryz.results155,go_sem,d1]) rfl ⟨_,_,by rw [HE.out];rfl,?_,?_⟩
  ·rw [HE.out]
   show OwT _ _ _ _ (S) (G)
   exact (HN4.out.set e2 (.inr rfl)).ot.base (by omega)
  have hbs:=B4.out.size;exact B4.out.trans (below_of_grown e2 (by omega) hbs)
 have HE:Hid (ok2=true):=by show _=_;rw [← H2.out,hdb.1,decide_eq_true (by rw [HGL.out];omega)];rfl
 obtain ⟨Y,hY,hoy,hoi,hdj,hde,hp1,hp2,hp3⟩:=HN4.out.own
 have hyl:Y.length=S.length:=by rw [← hY,List.length_map]
 have hbnl:=HL.out
 rcases hoy.row.2 with ⟨_,h2⟩ | ⟨gr,cap',cur,h1,hB,_,hvc,_⟩
 ·exfalso;omega
 simp only [Value.slice.injEq] at h1;obtain ⟨rfl,-,rfl⟩:=h1
 have hiz:i<Y.length:=by omega
 obtain ⟨ad2,had2,hsl2⟩:∃ ad2:Addr,(ad2=⟨gr,(i+1)*7,none⟩∨bn - (i+1)=0)∧(if c8=i+1 then some (⟨gr,0,none⟩:Addr) else some ⟨gr,(i+1)*7,none⟩)=some ad2:=by
  by_cases hc:c8=i+1
  ·exact ⟨⟨gr,0,none⟩,.inr (by omega),by rw [if_pos hc]⟩
  exact ⟨⟨gr,(i+1)*7,none⟩,.inl rfl,by rw [if_neg hc]⟩
 obtain ⟨k2,hk2⟩:∃ k2,bn - (i+1)=k2:=⟨_,rfl⟩;obtain ⟨c2,hc2⟩:∃ c2,c8 - (i+1)=c2:=⟨_,rfl⟩;have hN:=HN.out
 have hsl1:IntKind.i64.wrap ((i:Int)+1)=(i:Int)+1:=by rw [IntKind.wrap_i64];omega
 have hsl3:(0:Int)≤(i:Int)+1∧(i:Int)+1≤(bn:Int):=by omega
 have hsl4:((i:Int)+1).toNat=i+1:=by omega
 have hsl5:(0:Int)≤(i:Int)∧(i:Int)≤(c8:Int):=by omega
 have hsl6:¬ c8=0:=by omega
 have hsl7:i≤c8:=by omega
 have HMN:Hid (bn≤1048576):=hN
 have HK2:Hid (Y.length - (i+1)=k2):=by show _=_;rw [hyl,hbnl];exact hk2
 have HOY:=hid hoy;have HYS:=hid hY;have HIZ:=hid hiz
 have HIM:Hid (i<bn∧Y.length=bn):=by show _∧_;omega
 have HGL4:Hid (gr<w4.heap.size):=(hoy.row.lt gr rfl).2
 have HWB:Hid (W0.heap.size≤w4.heap.size):=by have h3:=O4.out.lt;have h4:=HW1.out;show _≤_;omega
 have HONE:=hid hoy.ones;have HEO:=hid hp3
 have HSR:Hid (∀ W:World,W.heap[gr]?=w4.heap[gr]?→∀ j u,(yc (Y.drop (i+1)))[j]?=some u→W.cell? (ad2.add j)=some u):=fun W hW j u hu=>by
  rcases had2 with rfl | h0
  ·have h1:=row_backY HOY.out (i+1) j u hu
   rw [addr_add] at h1 ⊢;exact (cell_same (p:=⟨gr,_,none⟩) hW).trans h1
  rw [List.drop_of_length_le (by omega)] at hu
  simp [yc] at hu
 have HXL:Hid ((Y.take i++Y.drop (i+1)).length=i+k2):=by
  show _=_
  rw [List.length_append,List.length_take,List.length_drop]
  omega
 have hib:i<bn:=by omega
 have hmt0:(0:Int)≤(i:Int):=by omega
 have c0:=A4.out.cells;have k0:=O4.out.cells;clear hY hoy hoi hdj hde hp1 hp2 hp3 hyl hbnl hB hvc had2 hiz hdb hpi hi
 go_wp2_with fail
 refine wp_region_noPanic ?_;refine wp_region_held_drew (S:=(fun _=>True)) (by kernel_rfl) (trivial) (fun hHeld=>?_);refine tk 1 ?_;refine tk 3 ?_;refine tk 6 ?_;refine tk 8 ?_;refine tk 9 ?_;clear hHeld;refine wpAnyH_ready (rs:=[0,2,7]) (by kernel_rfl) (by simp) ?_;refine rc (fun K hK=>?x14) ?y14
 case' x14 =>
  go_simp;obtain ⟨W7,hW7⟩:∃ W7,w4.drew.alloc (.cells #[] 38)=W7:=⟨_,rfl⟩;have hW7':(w4.alloc (.cells #[] 38)).drew=W7:=hW7
  first | simp only [hW7] | simp only [hW7'] | trace_state
  have B7:Hid (Below w4.heap.size w4 W7):=by show Below _ _ _;rw [← hW7];exact bpush (bdr (bre _)) _
  have E7:Hid (OwS W7 W0.heap.size (.slice (some ⟨w4.heap.size,0,none⟩) 0 0) []):=by show OwS _ _ _ _;rw [← hW7];exact ownS_empty w4.drew _ HWB.out
  have Z7:=hid (HOY.out.later B7.out);have G7:Hid (gr<W7.heap.size):=(Z7.out.row.lt gr rfl).2;have x7:=O4.out.later B7.out;have k7:=x7.cells;have X7:=hid x7;clear hW7 hW7' x7;refine hK.out _ _ (trivial) (fun hHeld=>?_);clear hK K;try simp only [Act.put,tq]
  clear hHeld;refine wpAnyH_ready (rs:=[2,7]) (by kernel_rfl) (by simp) ?_;refine rc (fun K hK=>?x15) ?y15
  case' x15 =>
   go_simp;refine hK.out _ _ (trivial) (fun hHeld=>?_);clear hK K;try simp only [Act.put,tq]
   refine tk 4 ?_;clear hHeld;refine wpAnyH_ready (rs:=[5,7]) (by kernel_rfl) (by simp) ?_;refine rc (fun K hK=>?x16) ?y16
   case' x16 =>
    refine step_append_boxes rfl (.tmp 27) (.tmp 31) rfl W0.heap.size (.slice (some ⟨w4.heap.size,0,none⟩) 0 0) 0 [] (by rfl) E7.out.row ⟨gr,0,none⟩ i c8 (yc (Y.take i)) (by rfl) (by rw [yc_len,List.length_take,Nat.min_eq_left (Nat.le_of_lt HIZ.out)]) (row_frontY Z7.out i) (fun u hu=>HONE.out u (by rw [yc_takeA] at hu;exact List.mem_of_mem_take hu)) (by have:=HMN.out;have:=HIM.out;omega) (Nat.le_trans HWB.out B7.out.size) ?_;intro v8 w8 hown8 hg8 hl8;simp only [Nat.zero_add,List.nil_append] at hown8;have R8:=hid hown8;have G8:Hid (W7.grownBy w8 (some w4.heap.size)):=hg8;have L8:=hid hl8;obtain ⟨a8,c9',hv8⟩:=row_shape hown8;subst hv8;have x8:=X7.out.grown G8.out (fun e=>by have h1:=O4.out.lt;simp only [Option.some.injEq] at e;omega);have k8:=x8.cells;clear hown8 hg8 hl8 x8;refine hK.out _ _ (trivial) (fun hHeld=>?_);clear hK K;try simp only [Act.put,tq]
    clear hHeld;refine ry 7 (fun K hK=>?_);go_simp;refine hK.out _ _ (trivial) (fun hHeld=>?_);clear hK K;try simp only [Act.put,tq]
    refine tk 10 ?_;clear hHeld;refine ry 11 (fun K hK=>?_);have s8:w8.heap[gr]?=W7.heap[gr]?:=G8.out.block gr G7.out (fun e=>by have h1:=HGL4.out;simp only [Option.some.injEq] at e;omega);have Z8:=hid (s8);refine step_append_boxes rfl (.tmp 32) (.tmp 37) rfl W0.heap.size (.slice a8 i c9') i (yc (Y.take i)) (by rfl) R8.out ad2 k2 c2 (yc (Y.drop (i+1))) (by rfl) (by rw [yc_len,List.length_drop,HK2.out]) (fun j u hu=>HSR.out w8 (Z8.out.trans (B7.out.block gr HGL4.out)) j u hu) (fun u hu=>HONE.out u (by rw [yc_dropA] at hu;exact List.mem_of_mem_drop hu)) (by have:=HMN.out;have:=HIM.out;have:=HK2.out;omega) (Nat.le_trans HWB.out (Nat.le_trans B7.out.size G8.out.size)) ?_;intro v9 w9 hown9 hg9 hl9;have R9:=hid hown9;have G9:=hid hg9;have L9:=hid hl9;obtain ⟨a9',c0',hv9⟩:=row_shape hown9;subst hv9
    have N8:Hid (∀ j,Value.ownBlock (.slice a8 i c9')=some j→w4.heap.size≤j):=fun j hj=>by
     rcases L8.out with h | h
     ·rw [h] at hj;simp [Value.ownBlock] at hj;omega
     rw [h] at hj;have h1:=B7.out.size;simp at hj;omega
    have N9:Hid (∀ j,Value.ownBlock (.slice a9' (i+k2) c0')=some j→w4.heap.size≤j):=fun j hj=>by
     rcases L9.out with h | h
     ·rw [h] at hj;exact N8.out j hj
     rw [h] at hj;have h1:=B7.out.size;have h2:=G8.out.size;simp at hj;omega
    have B9:Hid (Below w4.heap.size w4 w9):=((B7.out.trans (below_of_grown G8.out (Nat.le_refl _) B7.out.size))).trans (below_grownR G9.out (fun j hj=>N8.out j hj) (Nat.le_trans B7.out.size G8.out.size));have x9:=O4.out.later B9.out;have k9:=x9.cells;have f9:=x9.loose;have X9:=hid x9;clear hown9 hg9 hl9 s8 x9;refine hK.out _ _ (trivial) (fun hHeld=>?_);clear hK K;try simp only [Act.put,tq]
    refine tk 12 ?_;clear hHeld;refine ry 13 (fun K hK=>?_);go_simp;refine hK.out _ _ (trivial) (fun hHeld=>?_);clear hK K;try simp only [Act.put,tq]
    refine dn ?_
   case' y16 =>
    refine rl (fun K hK=>?_);go_simp;refine hK.out _ _ (trivial) (fun hHeld=>?_);clear hK K;try simp only [Act.put,tq]
    refine tk 10 ?_;clear hHeld;refine ry 5 (fun K hK=>?_);refine step_append_boxes rfl (.tmp 27) (.tmp 31) rfl W0.heap.size (.slice (some ⟨w4.heap.size,0,none⟩) 0 0) 0 [] (by rfl) E7.out.row ⟨gr,0,none⟩ i c8 (yc (Y.take i)) (by rfl) (by rw [yc_len,List.length_take,Nat.min_eq_left (Nat.le_of_lt HIZ.out)]) (row_frontY Z7.out i) (fun u hu=>HONE.out u (by rw [yc_takeA] at hu;exact List.mem_of_mem_take hu)) (by have:=HMN.out;have:=HIM.out;omega) (Nat.le_trans HWB.out B7.out.size) ?_;intro v8 w8 hown8 hg8 hl8;simp only [Nat.zero_add,List.nil_append] at hown8;have R8:=hid hown8;have G8:Hid (W7.grownBy w8 (some w4.heap.size)):=hg8;have L8:=hid hl8;obtain ⟨a8,c9',hv8⟩:=row_shape hown8;subst hv8;have x8:=X7.out.grown G8.out (fun e=>by have h1:=O4.out.lt;simp only [Option.some.injEq] at e;omega);have k8:=x8.cells;clear hown8 hg8 hl8 x8;refine hK.out _ _ (trivial) (fun hHeld=>?_);clear hK K;try simp only [Act.put,tq]
    clear hHeld;refine ry 11 (fun K hK=>?_);have s8:w8.heap[gr]?=W7.heap[gr]?:=G8.out.block gr G7.out (fun e=>by have h1:=HGL4.out;simp only [Option.some.injEq] at e;omega);have Z8:=hid (s8);refine step_append_boxes rfl (.tmp 32) (.tmp 37) rfl W0.heap.size (.slice a8 i c9') i (yc (Y.take i)) (by rfl) R8.out ad2 k2 c2 (yc (Y.drop (i+1))) (by rfl) (by rw [yc_len,List.length_drop,HK2.out]) (fun j u hu=>HSR.out w8 (Z8.out.trans (B7.out.block gr HGL4.out)) j u hu) (fun u hu=>HONE.out u (by rw [yc_dropA] at hu;exact List.mem_of_mem_drop hu)) (by have:=HMN.out;have:=HIM.out;have:=HK2.out;omega) (Nat.le_trans HWB.out (Nat.le_trans B7.out.size G8.out.size)) ?_;intro v9 w9 hown9 hg9 hl9;have R9:=hid hown9;have G9:=hid hg9;have L9:=hid hl9;obtain ⟨a9',c0',hv9⟩:=row_shape hown9;subst hv9
    have N8:Hid (∀ j,Value.ownBlock (.slice a8 i c9')=some j→w4.heap.size≤j):=fun j hj=>by
     rcases L8.out with h | h
     ·rw [h] at hj;simp [Value.ownBlock] at hj;omega
     rw [h] at hj;have h1:=B7.out.size;simp at hj;omega
    have N9:Hid (∀ j,Value.ownBlock (.slice a9' (i+k2) c0')=some j→w4.heap.size≤j):=fun j hj=>by
     rcases L9.out with h | h
     ·rw [h] at hj;exact N8.out j hj
     rw [h] at hj;have h1:=B7.out.size;have h2:=G8.out.size;simp at hj;omega
    have B9:Hid (Below w4.heap.size w4 w9):=((B7.out.trans (below_of_grown G8.out (Nat.le_refl _) B7.out.size))).trans (below_grownR G9.out (fun j hj=>N8.out j hj) (Nat.le_trans B7.out.size G8.out.size));have x9:=O4.out.later B9.out;have k9:=x9.cells;have f9:=x9.loose;have X9:=hid x9;clear hown9 hg9 hl9 s8 x9;refine hK.out _ _ (trivial) (fun hHeld=>?_);clear hK K;try simp only [Act.put,tq]
    refine tk 12 ?_;clear hHeld;refine ry 13 (fun K hK=>?_);go_simp;refine hK.out _ _ (trivial) (fun hHeld=>?_);clear hK K;try simp only [Act.put,tq]
    refine dn ?_
  case' y15 =>
   refine rl (fun K hK=>?_);go_simp;refine hK.out _ _ (trivial) (fun hHeld=>?_);clear hK K;try simp only [Act.put,tq]
   refine tk 10 ?_;clear hHeld;refine ry 2 (fun K hK=>?_);go_simp;refine hK.out _ _ (trivial) (fun hHeld=>?_);clear hK K;try simp only [Act.put,tq]
   refine tk 4 ?_;clear hHeld;refine ry 5 (fun K hK=>?_);refine step_append_boxes rfl (.tmp 27) (.tmp 31) rfl W0.heap.size (.slice (some ⟨w4.heap.size,0,none⟩) 0 0) 0 [] (by rfl) E7.out.row ⟨gr,0,none⟩ i c8 (yc (Y.take i)) (by rfl) (by rw [yc_len,List.length_take,Nat.min_eq_left (Nat.le_of_lt HIZ.out)]) (row_frontY Z7.out i) (fun u hu=>HONE.out u (by rw [yc_takeA] at hu;exact List.mem_of_mem_take hu)) (by have:=HMN.out;have:=HIM.out;omega) (Nat.le_trans HWB.out B7.out.size) ?_;intro v8 w8 hown8 hg8 hl8;simp only [Nat.zero_add,List.nil_append] at hown8;have R8:=hid hown8;have G8:Hid (W7.grownBy w8 (some w4.heap.size)):=hg8;have L8:=hid hl8;obtain ⟨a8,c9',hv8⟩:=row_shape hown8;subst hv8;have x8:=X7.out.grown G8.out (fun e=>by have h1:=O4.out.lt;simp only [Option.some.injEq] at e;omega);have k8:=x8.cells;clear hown8 hg8 hl8 x8;refine hK.out _ _ (trivial) (fun hHeld=>?_);clear hK K;try simp only [Act.put,tq]
   clear hHeld;refine ry 11 (fun K hK=>?_);have s8:w8.heap[gr]?=W7.heap[gr]?:=G8.out.block gr G7.out (fun e=>by have h1:=HGL4.out;simp only [Option.some.injEq] at e;omega);have Z8:=hid (s8);refine step_append_boxes rfl (.tmp 32) (.tmp 37) rfl W0.heap.size (.slice a8 i c9') i (yc (Y.take i)) (by rfl) R8.out ad2 k2 c2 (yc (Y.drop (i+1))) (by rfl) (by rw [yc_len,List.length_drop,HK2.out]) (fun j u hu=>HSR.out w8 (Z8.out.trans (B7.out.block gr HGL4.out)) j u hu) (fun u hu=>HONE.out u (by rw [yc_dropA] at hu;exact List.mem_of_mem_drop hu)) (by have:=HMN.out;have:=HIM.out;have:=HK2.out;omega) (Nat.le_trans HWB.out (Nat.le_trans B7.out.size G8.out.size)) ?_;intro v9 w9 hown9 hg9 hl9;have R9:=hid hown9;have G9:=hid hg9;have L9:=hid hl9;obtain ⟨a9',c0',hv9⟩:=row_shape hown9;subst hv9
   have N8:Hid (∀ j,Value.ownBlock (.slice a8 i c9')=some j→w4.heap.size≤j):=fun j hj=>by
    rcases L8.out with h | h
    ·rw [h] at hj;simp [Value.ownBlock] at hj;omega
    rw [h] at hj;have h1:=B7.out.size;simp at hj;omega
   have N9:Hid (∀ j,Value.ownBlock (.slice a9' (i+k2) c0')=some j→w4.heap.size≤j):=fun j hj=>by
    rcases L9.out with h | h
    ·rw [h] at hj;exact N8.out j hj
    rw [h] at hj;have h1:=B7.out.size;have h2:=G8.out.size;simp at hj;omega
   have B9:Hid (Below w4.heap.size w4 w9):=((B7.out.trans (below_of_grown G8.out (Nat.le_refl _) B7.out.size))).trans (below_grownR G9.out (fun j hj=>N8.out j hj) (Nat.le_trans B7.out.size G8.out.size));have x9:=O4.out.later B9.out;have k9:=x9.cells;have f9:=x9.loose;have X9:=hid x9;clear hown9 hg9 hl9 s8 x9;refine hK.out _ _ (trivial) (fun hHeld=>?_);clear hK K;try simp only [Act.put,tq]
   refine tk 12 ?_;clear hHeld;refine ry 13 (fun K hK=>?_);go_simp;refine hK.out _ _ (trivial) (fun hHeld=>?_);clear hK K;try simp only [Act.put,tq]
   refine dn ?_
 case' y14 =>
  refine rc (fun K hK=>?x17) ?y17
  case' x17 =>
   go_simp;refine hK.out _ _ (trivial) (fun hHeld=>?_);clear hK K;try simp only [Act.put,tq]
   refine tk 4 ?_;clear hHeld;refine wpAnyH_ready (rs:=[0,7]) (by kernel_rfl) (by simp) ?_;refine rc (fun K hK=>?x18) ?y18
   case' x18 =>
    go_simp;obtain ⟨W7,hW7⟩:∃ W7,w4.drew.alloc (.cells #[] 38)=W7:=⟨_,rfl⟩;have hW7':(w4.alloc (.cells #[] 38)).drew=W7:=hW7
    first | simp only [hW7] | simp only [hW7'] | trace_state
    have B7:Hid (Below w4.heap.size w4 W7):=by show Below _ _ _;rw [← hW7];exact bpush (bdr (bre _)) _
    have E7:Hid (OwS W7 W0.heap.size (.slice (some ⟨w4.heap.size,0,none⟩) 0 0) []):=by show OwS _ _ _ _;rw [← hW7];exact ownS_empty w4.drew _ HWB.out
    have Z7:=hid (HOY.out.later B7.out);have G7:Hid (gr<W7.heap.size):=(Z7.out.row.lt gr rfl).2;have x7:=O4.out.later B7.out;have k7:=x7.cells;have X7:=hid x7;clear hW7 hW7' x7;refine hK.out _ _ (trivial) (fun hHeld=>?_);clear hK K;try simp only [Act.put,tq]
    clear hHeld;refine wpAnyH_ready (rs:=[5,7]) (by kernel_rfl) (by simp) ?_;refine rc (fun K hK=>?x19) ?y19
    case' x19 =>
     refine step_append_boxes rfl (.tmp 27) (.tmp 31) rfl W0.heap.size (.slice (some ⟨w4.heap.size,0,none⟩) 0 0) 0 [] (by rfl) E7.out.row ⟨gr,0,none⟩ i c8 (yc (Y.take i)) (by rfl) (by rw [yc_len,List.length_take,Nat.min_eq_left (Nat.le_of_lt HIZ.out)]) (row_frontY Z7.out i) (fun u hu=>HONE.out u (by rw [yc_takeA] at hu;exact List.mem_of_mem_take hu)) (by have:=HMN.out;have:=HIM.out;omega) (Nat.le_trans HWB.out B7.out.size) ?_;intro v8 w8 hown8 hg8 hl8;simp only [Nat.zero_add,List.nil_append] at hown8;have R8:=hid hown8;have G8:Hid (W7.grownBy w8 (some w4.heap.size)):=hg8;have L8:=hid hl8;obtain ⟨a8,c9',hv8⟩:=row_shape hown8;subst hv8;have x8:=X7.out.grown G8.out (fun e=>by have h1:=O4.out.lt;simp only [Option.some.injEq] at e;omega);have k8:=x8.cells;clear hown8 hg8 hl8 x8;refine hK.out _ _ (trivial) (fun hHeld=>?_);clear hK K;try simp only [Act.put,tq]
     clear hHeld;refine ry 7 (fun K hK=>?_);go_simp;refine hK.out _ _ (trivial) (fun hHeld=>?_);clear hK K;try simp only [Act.put,tq]
     refine tk 10 ?_;clear hHeld;refine ry 11 (fun K hK=>?_);have s8:w8.heap[gr]?=W7.heap[gr]?:=G8.out.block gr G7.out (fun e=>by have h1:=HGL4.out;simp only [Option.some.injEq] at e;omega);have Z8:=hid (s8);refine step_append_boxes rfl (.tmp 32) (.tmp 37) rfl W0.heap.size (.slice a8 i c9') i (yc (Y.take i)) (by rfl) R8.out ad2 k2 c2 (yc (Y.drop (i+1))) (by rfl) (by rw [yc_len,List.length_drop,HK2.out]) (fun j u hu=>HSR.out w8 (Z8.out.trans (B7.out.block gr HGL4.out)) j u hu) (fun u hu=>HONE.out u (by rw [yc_dropA] at hu;exact List.mem_of_mem_drop hu)) (by have:=HMN.out;have:=HIM.out;have:=HK2.out;omega) (Nat.le_trans HWB.out (Nat.le_trans B7.out.size G8.out.size)) ?_;intro v9 w9 hown9 hg9 hl9;have R9:=hid hown9;have G9:=hid hg9;have L9:=hid hl9;obtain ⟨a9',c0',hv9⟩:=row_shape hown9;subst hv9
     have N8:Hid (∀ j,Value.ownBlock (.slice a8 i c9')=some j→w4.heap.size≤j):=fun j hj=>by
      rcases L8.out with h | h
      ·rw [h] at hj;simp [Value.ownBlock] at hj;omega
      rw [h] at hj;have h1:=B7.out.size;simp at hj;omega
     have N9:Hid (∀ j,Value.ownBlock (.slice a9' (i+k2) c0')=some j→w4.heap.size≤j):=fun j hj=>by
      rcases L9.out with h | h
      ·rw [h] at hj;exact N8.out j hj
      rw [h] at hj;have h1:=B7.out.size;have h2:=G8.out.size;simp at hj;omega
     have B9:Hid (Below w4.heap.size w4 w9):=((B7.out.trans (below_of_grown G8.out (Nat.le_refl _) B7.out.size))).trans (below_grownR G9.out (fun j hj=>N8.out j hj) (Nat.le_trans B7.out.size G8.out.size));have x9:=O4.out.later B9.out;have k9:=x9.cells;have f9:=x9.loose;have X9:=hid x9;clear hown9 hg9 hl9 s8 x9;refine hK.out _ _ (trivial) (fun hHeld=>?_);clear hK K;try simp only [Act.put,tq]
     refine tk 12 ?_;clear hHeld;refine ry 13 (fun K hK=>?_);go_simp;refine hK.out _ _ (trivial) (fun hHeld=>?_);clear hK K;try simp only [Act.put,tq]
     refine dn ?_
    case' y19 =>
     refine rl (fun K hK=>?_);go_simp;refine hK.out _ _ (trivial) (fun hHeld=>?_);clear hK K;try simp only [Act.put,tq]
     refine tk 10 ?_;clear hHeld;refine ry 5 (fun K hK=>?_);refine step_append_boxes rfl (.tmp 27) (.tmp 31) rfl W0.heap.size (.slice (some ⟨w4.heap.size,0,none⟩) 0 0) 0 [] (by rfl) E7.out.row ⟨gr,0,none⟩ i c8 (yc (Y.take i)) (by rfl) (by rw [yc_len,List.length_take,Nat.min_eq_left (Nat.le_of_lt HIZ.out)]) (row_frontY Z7.out i) (fun u hu=>HONE.out u (by rw [yc_takeA] at hu;exact List.mem_of_mem_take hu)) (by have:=HMN.out;have:=HIM.out;omega) (Nat.le_trans HWB.out B7.out.size) ?_;intro v8 w8 hown8 hg8 hl8;simp only [Nat.zero_add,List.nil_append] at hown8;have R8:=hid hown8;have G8:Hid (W7.grownBy w8 (some w4.heap.size)):=hg8;have L8:=hid hl8;obtain ⟨a8,c9',hv8⟩:=row_shape hown8;subst hv8;have x8:=X7.out.grown G8.out (fun e=>by have h1:=O4.out.lt;simp only [Option.some.injEq] at e;omega);have k8:=x8.cells;clear hown8 hg8 hl8 x8;refine hK.out _ _ (trivial) (fun hHeld=>?_);clear hK K;try simp only [Act.put,tq]
     clear hHeld;refine ry 11 (fun K hK=>?_);have s8:w8.heap[gr]?=W7.heap[gr]?:=G8.out.block gr G7.out (fun e=>by have h1:=HGL4.out;simp only [Option.some.injEq] at e;omega);have Z8:=hid (s8);refine step_append_boxes rfl (.tmp 32) (.tmp 37) rfl W0.heap.size (.slice a8 i c9') i (yc (Y.take i)) (by rfl) R8.out ad2 k2 c2 (yc (Y.drop (i+1))) (by rfl) (by rw [yc_len,List.length_drop,HK2.out]) (fun j u hu=>HSR.out w8 (Z8.out.trans (B7.out.block gr HGL4.out)) j u hu) (fun u hu=>HONE.out u (by rw [yc_dropA] at hu;exact List.mem_of_mem_drop hu)) (by have:=HMN.out;have:=HIM.out;have:=HK2.out;omega) (Nat.le_trans HWB.out (Nat.le_trans B7.out.size G8.out.size)) ?_;intro v9 w9 hown9 hg9 hl9;have R9:=hid hown9;have G9:=hid hg9;have L9:=hid hl9;obtain ⟨a9',c0',hv9⟩:=row_shape hown9;subst hv9
     have N8:Hid (∀ j,Value.ownBlock (.slice a8 i c9')=some j→w4.heap.size≤j):=fun j hj=>by
      rcases L8.out with h | h
      ·rw [h] at hj;simp [Value.ownBlock] at hj;omega
      rw [h] at hj;have h1:=B7.out.size;simp at hj;omega
     have N9:Hid (∀ j,Value.ownBlock (.slice a9' (i+k2) c0')=some j→w4.heap.size≤j):=fun j hj=>by
      rcases L9.out with h | h
      ·rw [h] at hj;exact N8.out j hj
      rw [h] at hj;have h1:=B7.out.size;have h2:=G8.out.size;simp at hj;omega
     have B9:Hid (Below w4.heap.size w4 w9):=((B7.out.trans (below_of_grown G8.out (Nat.le_refl _) B7.out.size))).trans (below_grownR G9.out (fun j hj=>N8.out j hj) (Nat.le_trans B7.out.size G8.out.size));have x9:=O4.out.later B9.out;have k9:=x9.cells;have f9:=x9.loose;have X9:=hid x9;clear hown9 hg9 hl9 s8 x9;refine hK.out _ _ (trivial) (fun hHeld=>?_);clear hK K;try simp only [Act.put,tq]
     refine tk 12 ?_;clear hHeld;refine ry 13 (fun K hK=>?_);go_simp;refine hK.out _ _ (trivial) (fun hHeld=>?_);clear hK K;try simp only [Act.put,tq]
     refine dn ?_
   case' y18 =>
    refine rl (fun K hK=>?_);go_simp;refine hK.out _ _ (trivial) (fun hHeld=>?_);clear hK K;try simp only [Act.put,tq]
    refine tk 10 ?_;clear hHeld;refine ry 0 (fun K hK=>?_);go_simp;obtain ⟨W7,hW7⟩:∃ W7,w4.drew.alloc (.cells #[] 38)=W7:=⟨_,rfl⟩;have hW7':(w4.alloc (.cells #[] 38)).drew=W7:=hW7
    first | simp only [hW7] | simp only [hW7'] | trace_state
    have B7:Hid (Below w4.heap.size w4 W7):=by show Below _ _ _;rw [← hW7];exact bpush (bdr (bre _)) _
    have E7:Hid (OwS W7 W0.heap.size (.slice (some ⟨w4.heap.size,0,none⟩) 0 0) []):=by show OwS _ _ _ _;rw [← hW7];exact ownS_empty w4.drew _ HWB.out
    have Z7:=hid (HOY.out.later B7.out);have G7:Hid (gr<W7.heap.size):=(Z7.out.row.lt gr rfl).2;have x7:=O4.out.later B7.out;have k7:=x7.cells;have X7:=hid x7;clear hW7 hW7' x7;refine hK.out _ _ (trivial) (fun hHeld=>?_);clear hK K;try simp only [Act.put,tq]
    clear hHeld;refine ry 5 (fun K hK=>?_);refine step_append_boxes rfl (.tmp 27) (.tmp 31) rfl W0.heap.size (.slice (some ⟨w4.heap.size,0,none⟩) 0 0) 0 [] (by rfl) E7.out.row ⟨gr,0,none⟩ i c8 (yc (Y.take i)) (by rfl) (by rw [yc_len,List.length_take,Nat.min_eq_left (Nat.le_of_lt HIZ.out)]) (row_frontY Z7.out i) (fun u hu=>HONE.out u (by rw [yc_takeA] at hu;exact List.mem_of_mem_take hu)) (by have:=HMN.out;have:=HIM.out;omega) (Nat.le_trans HWB.out B7.out.size) ?_;intro v8 w8 hown8 hg8 hl8;simp only [Nat.zero_add,List.nil_append] at hown8;have R8:=hid hown8;have G8:Hid (W7.grownBy w8 (some w4.heap.size)):=hg8;have L8:=hid hl8;obtain ⟨a8,c9',hv8⟩:=row_shape hown8;subst hv8;have x8:=X7.out.grown G8.out (fun e=>by have h1:=O4.out.lt;simp only [Option.some.injEq] at e;omega);have k8:=x8.cells;clear hown8 hg8 hl8 x8;refine hK.out _ _ (trivial) (fun hHeld=>?_);clear hK K;try simp only [Act.put,tq]
    clear hHeld;refine ry 11 (fun K hK=>?_);have s8:w8.heap[gr]?=W7.heap[gr]?:=G8.out.block gr G7.out (fun e=>by have h1:=HGL4.out;simp only [Option.some.injEq] at e;omega);have Z8:=hid (s8);refine step_append_boxes rfl (.tmp 32) (.tmp 37) rfl W0.heap.size (.slice a8 i c9') i (yc (Y.take i)) (by rfl) R8.out ad2 k2 c2 (yc (Y.drop (i+1))) (by rfl) (by rw [yc_len,List.length_drop,HK2.out]) (fun j u hu=>HSR.out w8 (Z8.out.trans (B7.out.block gr HGL4.out)) j u hu) (fun u hu=>HONE.out u (by rw [yc_dropA] at hu;exact List.mem_of_mem_drop hu)) (by have:=HMN.out;have:=HIM.out;have:=HK2.out;omega) (Nat.le_trans HWB.out (Nat.le_trans B7.out.size G8.out.size)) ?_;intro v9 w9 hown9 hg9 hl9;have R9:=hid hown9;have G9:=hid hg9;have L9:=hid hl9;obtain ⟨a9',c0',hv9⟩:=row_shape hown9;subst hv9
    have N8:Hid (∀ j,Value.ownBlock (.slice a8 i c9')=some j→w4.heap.size≤j):=fun j hj=>by
     rcases L8.out with h | h
     ·rw [h] at hj;simp [Value.ownBlock] at hj;omega
     rw [h] at hj;have h1:=B7.out.size;simp at hj;omega
    have N9:Hid (∀ j,Value.ownBlock (.slice a9' (i+k2) c0')=some j→w4.heap.size≤j):=fun j hj=>by
     rcases L9.out with h | h
     ·rw [h] at hj;exact N8.out j hj
     rw [h] at hj;have h1:=B7.out.size;have h2:=G8.out.size;simp at hj;omega
    have B9:Hid (Below w4.heap.size w4 w9):=((B7.out.trans (below_of_grown G8.out (Nat.le_refl _) B7.out.size))).trans (below_grownR G9.out (fun j hj=>N8.out j hj) (Nat.le_trans B7.out.size G8.out.size));have x9:=O4.out.later B9.out;have k9:=x9.cells;have f9:=x9.loose;have X9:=hid x9;clear hown9 hg9 hl9 s8 x9;refine hK.out _ _ (trivial) (fun hHeld=>?_);clear hK K;try simp only [Act.put,tq]
    refine tk 12 ?_;clear hHeld;refine ry 13 (fun K hK=>?_);go_simp;refine hK.out _ _ (trivial) (fun hHeld=>?_);clear hK K;try simp only [Act.put,tq]
    refine dn ?_
  case' y17 =>
   refine rl (fun K hK=>?_);go_simp;refine hK.out _ _ (trivial) (fun hHeld=>?_);clear hK K;try simp only [Act.put,tq]
   refine tk 10 ?_;clear hHeld;refine wpAnyH_ready (rs:=[0,2]) (by kernel_rfl) (by simp) ?_;refine rc (fun K hK=>?x20) ?y20
   case' x20 =>
    go_simp;obtain ⟨W7,hW7⟩:∃ W7,w4.drew.alloc (.cells #[] 38)=W7:=⟨_,rfl⟩;have hW7':(w4.alloc (.cells #[] 38)).drew=W7:=hW7
    first | simp only [hW7] | simp only [hW7'] | trace_state
    have B7:Hid (Below w4.heap.size w4 W7):=by show Below _ _ _;rw [← hW7];exact bpush (bdr (bre _)) _
    have E7:Hid (OwS W7 W0.heap.size (.slice (some ⟨w4.heap.size,0,none⟩) 0 0) []):=by show OwS _ _ _ _;rw [← hW7];exact ownS_empty w4.drew _ HWB.out
    have Z7:=hid (HOY.out.later B7.out);have G7:Hid (gr<W7.heap.size):=(Z7.out.row.lt gr rfl).2;have x7:=O4.out.later B7.out;have k7:=x7.cells;have X7:=hid x7;clear hW7 hW7' x7;refine hK.out _ _ (trivial) (fun hHeld=>?_);clear hK K;try simp only [Act.put,tq]
    clear hHeld;refine ry 2 (fun K hK=>?_);go_simp;refine hK.out _ _ (trivial) (fun hHeld=>?_);clear hK K;try simp only [Act.put,tq]
    refine tk 4 ?_;clear hHeld;refine ry 5 (fun K hK=>?_);refine step_append_boxes rfl (.tmp 27) (.tmp 31) rfl W0.heap.size (.slice (some ⟨w4.heap.size,0,none⟩) 0 0) 0 [] (by rfl) E7.out.row ⟨gr,0,none⟩ i c8 (yc (Y.take i)) (by rfl) (by rw [yc_len,List.length_take,Nat.min_eq_left (Nat.le_of_lt HIZ.out)]) (row_frontY Z7.out i) (fun u hu=>HONE.out u (by rw [yc_takeA] at hu;exact List.mem_of_mem_take hu)) (by have:=HMN.out;have:=HIM.out;omega) (Nat.le_trans HWB.out B7.out.size) ?_;intro v8 w8 hown8 hg8 hl8;simp only [Nat.zero_add,List.nil_append] at hown8;have R8:=hid hown8;have G8:Hid (W7.grownBy w8 (some w4.heap.size)):=hg8;have L8:=hid hl8;obtain ⟨a8,c9',hv8⟩:=row_shape hown8;subst hv8;have x8:=X7.out.grown G8.out (fun e=>by have h1:=O4.out.lt;simp only [Option.some.injEq] at e;omega);have k8:=x8.cells;clear hown8 hg8 hl8 x8;refine hK.out _ _ (trivial) (fun hHeld=>?_);clear hK K;try simp only [Act.put,tq]
    clear hHeld;refine ry 11 (fun K hK=>?_);have s8:w8.heap[gr]?=W7.heap[gr]?:=G8.out.block gr G7.out (fun e=>by have h1:=HGL4.out;simp only [Option.some.injEq] at e;omega);have Z8:=hid (s8);refine step_append_boxes rfl (.tmp 32) (.tmp 37) rfl W0.heap.size (.slice a8 i c9') i (yc (Y.take i)) (by rfl) R8.out ad2 k2 c2 (yc (Y.drop (i+1))) (by rfl) (by rw [yc_len,List.length_drop,HK2.out]) (fun j u hu=>HSR.out w8 (Z8.out.trans (B7.out.block gr HGL4.out)) j u hu) (fun u hu=>HONE.out u (by rw [yc_dropA] at hu;exact List.mem_of_mem_drop hu)) (by have:=HMN.out;have:=HIM.out;have:=HK2.out;omega) (Nat.le_trans HWB.out (Nat.le_trans B7.out.size G8.out.size)) ?_;intro v9 w9 hown9 hg9 hl9;have R9:=hid hown9;have G9:=hid hg9;have L9:=hid hl9;obtain ⟨a9',c0',hv9⟩:=row_shape hown9;subst hv9
    have N8:Hid (∀ j,Value.ownBlock (.slice a8 i c9')=some j→w4.heap.size≤j):=fun j hj=>by
     rcases L8.out with h | h
     ·rw [h] at hj;simp [Value.ownBlock] at hj;omega
     rw [h] at hj;have h1:=B7.out.size;simp at hj;omega
    have N9:Hid (∀ j,Value.ownBlock (.slice a9' (i+k2) c0')=some j→w4.heap.size≤j):=fun j hj=>by
     rcases L9.out with h | h
     ·rw [h] at hj;exact N8.out j hj
     rw [h] at hj;have h1:=B7.out.size;have h2:=G8.out.size;simp at hj;omega
    have B9:Hid (Below w4.heap.size w4 w9):=((B7.out.trans (below_of_grown G8.out (Nat.le_refl _) B7.out.size))).trans (below_grownR G9.out (fun j hj=>N8.out j hj) (Nat.le_trans B7.out.size G8.out.size));have x9:=O4.out.later B9.out;have k9:=x9.cells;have f9:=x9.loose;have X9:=hid x9;clear hown9 hg9 hl9 s8 x9;refine hK.out _ _ (trivial) (fun hHeld=>?_);clear hK K;try simp only [Act.put,tq]
    refine tk 12 ?_;clear hHeld;refine ry 13 (fun K hK=>?_);go_simp;refine hK.out _ _ (trivial) (fun hHeld=>?_);clear hK K;try simp only [Act.put,tq]
    refine dn ?_
   case' y20 =>
    refine rl (fun K hK=>?_);go_simp;refine hK.out _ _ (trivial) (fun hHeld=>?_);clear hK K;try simp only [Act.put,tq]
    refine tk 4 ?_;clear hHeld;refine ry 0 (fun K hK=>?_);go_simp;obtain ⟨W7,hW7⟩:∃ W7,w4.drew.alloc (.cells #[] 38)=W7:=⟨_,rfl⟩;have hW7':(w4.alloc (.cells #[] 38)).drew=W7:=hW7
    first | simp only [hW7] | simp only [hW7'] | trace_state
    have B7:Hid (Below w4.heap.size w4 W7):=by show Below _ _ _;rw [← hW7];exact bpush (bdr (bre _)) _
    have E7:Hid (OwS W7 W0.heap.size (.slice (some ⟨w4.heap.size,0,none⟩) 0 0) []):=by show OwS _ _ _ _;rw [← hW7];exact ownS_empty w4.drew _ HWB.out
    have Z7:=hid (HOY.out.later B7.out);have G7:Hid (gr<W7.heap.size):=(Z7.out.row.lt gr rfl).2;have x7:=O4.out.later B7.out;have k7:=x7.cells;have X7:=hid x7;clear hW7 hW7' x7;refine hK.out _ _ (trivial) (fun hHeld=>?_);clear hK K;try simp only [Act.put,tq]
    clear hHeld;refine ry 5 (fun K hK=>?_);refine step_append_boxes rfl (.tmp 27) (.tmp 31) rfl W0.heap.size (.slice (some ⟨w4.heap.size,0,none⟩) 0 0) 0 [] (by rfl) E7.out.row ⟨gr,0,none⟩ i c8 (yc (Y.take i)) (by rfl) (by rw [yc_len,List.length_take,Nat.min_eq_left (Nat.le_of_lt HIZ.out)]) (row_frontY Z7.out i) (fun u hu=>HONE.out u (by rw [yc_takeA] at hu;exact List.mem_of_mem_take hu)) (by have:=HMN.out;have:=HIM.out;omega) (Nat.le_trans HWB.out B7.out.size) ?_;intro v8 w8 hown8 hg8 hl8;simp only [Nat.zero_add,List.nil_append] at hown8;have R8:=hid hown8;have G8:Hid (W7.grownBy w8 (some w4.heap.size)):=hg8;have L8:=hid hl8;obtain ⟨a8,c9',hv8⟩:=row_shape hown8;subst hv8;have x8:=X7.out.grown G8.out (fun e=>by have h1:=O4.out.lt;simp only [Option.some.injEq] at e;omega);have k8:=x8.cells;clear hown8 hg8 hl8 x8;refine hK.out _ _ (trivial) (fun hHeld=>?_);clear hK K;try simp only [Act.put,tq]
    clear hHeld;refine ry 11 (fun K hK=>?_);have s8:w8.heap[gr]?=W7.heap[gr]?:=G8.out.block gr G7.out (fun e=>by have h1:=HGL4.out;simp only [Option.some.injEq] at e;omega);have Z8:=hid (s8);refine step_append_boxes rfl (.tmp 32) (.tmp 37) rfl W0.heap.size (.slice a8 i c9') i (yc (Y.take i)) (by rfl) R8.out ad2 k2 c2 (yc (Y.drop (i+1))) (by rfl) (by rw [yc_len,List.length_drop,HK2.out]) (fun j u hu=>HSR.out w8 (Z8.out.trans (B7.out.block gr HGL4.out)) j u hu) (fun u hu=>HONE.out u (by rw [yc_dropA] at hu;exact List.mem_of_mem_drop hu)) (by have:=HMN.out;have:=HIM.out;have:=HK2.out;omega) (Nat.le_trans HWB.out (Nat.le_trans B7.out.size G8.out.size)) ?_;intro v9 w9 hown9 hg9 hl9;have R9:=hid hown9;have G9:=hid hg9;have L9:=hid hl9;obtain ⟨a9',c0',hv9⟩:=row_shape hown9;subst hv9
    have N8:Hid (∀ j,Value.ownBlock (.slice a8 i c9')=some j→w4.heap.size≤j):=fun j hj=>by
     rcases L8.out with h | h
     ·rw [h] at hj;simp [Value.ownBlock] at hj;omega
     rw [h] at hj;have h1:=B7.out.size;simp at hj;omega
    have N9:Hid (∀ j,Value.ownBlock (.slice a9' (i+k2) c0')=some j→w4.heap.size≤j):=fun j hj=>by
     rcases L9.out with h | h
     ·rw [h] at hj;exact N8.out j hj
     rw [h] at hj;have h1:=B7.out.size;have h2:=G8.out.size;simp at hj;omega
    have B9:Hid (Below w4.heap.size w4 w9):=((B7.out.trans (below_of_grown G8.out (Nat.le_refl _) B7.out.size))).trans (below_grownR G9.out (fun j hj=>N8.out j hj) (Nat.le_trans B7.out.size G8.out.size));have x9:=O4.out.later B9.out;have k9:=x9.cells;have f9:=x9.loose;have X9:=hid x9;clear hown9 hg9 hl9 s8 x9;refine hK.out _ _ (trivial) (fun hHeld=>?_);clear hK K;try simp only [Act.put,tq]
    refine tk 12 ?_;clear hHeld;refine ry 13 (fun K hK=>?_);go_simp;refine hK.out _ _ (trivial) (fun hHeld=>?_);clear hK K;try simp only [Act.put,tq]
    refine dn ?_
 all_goals
  obtain ⟨W10,hW10⟩:∃ W10,w9.setCell ⟨ko,2,none⟩ (.slice a9' (i+k2) c0')=W10:=⟨_,rfl⟩
  have g10:w9.grownBy W10 (some ko):=by rw [← hW10];exact wst (wre _ _) _ _
  have x10:Sx W10 ko 27 y tm (.slice a9' (i+k2) c0') (.slice a9 gn c9):=by rw [← hW10];exact X9.out.s2 _
  have hs0:=S0.out;have hw1:=HW1.out;have r10:=(R4.out.later B9.out).off g10 (by omega);have a10:=(A4.out.later B9.out).off g10 (by omega);have b10:Below w.heap.size w W10:=(btr B4.out B9.out).trans (below_of_grown g10 (by omega) (btr B4.out B9.out).size)
  have z10:OwS W10 W0.heap.size (.slice a9' (i+k2) c0') (Y.take i++Y.drop (i+1)):=by
   refine HOY.out.moved (List.Sublist.trans ((List.Sublist.refl (Y.take i)).append (List.drop_sublist_drop_left Y (Nat.le_succ i))) (by rw [List.take_append_drop];exact List.Sublist.refl _)) ?_ (Nat.le_trans B9.out.size g10.size) (fun z hz=>⟨fun j j1 j2=>?_,fun j hj=>?_⟩)
   ·have h1:=R9.out
    rw [← yc_app] at h1;rw [HXL.out];exact row_kept h1 g10 (fun j hj e=>by have h2:=N9.out j hj;have h3:=O4.out.lt;simp only [Option.some.injEq] at e;omega)
   ·have h1:=Nat.lt_of_lt_of_le j2 (HOY.out.each z hz).1.top
    exact (g10.block j (Nat.lt_of_lt_of_le h1 B9.out.size) (fun e=>by simp only [Option.some.injEq] at e;exact HEO.out z hz j j1 j2 (.inl e))).trans (B9.out.block j h1)
   have h2:=N9.out j hj;have h3:=(HOY.out.each z hz).1.top
   omega
  simp only [hW10];have X10:=hid x10;have R10:=hid r10;have A10:=hid a10;have B10:=hid b10;have Z10:=hid z10;have c10:=a10.cells;have k10:=x10.cells;have f10:=x10.loose;clear hHeld hW10 g10 x10 r10 a10 b10 z10 k9 f9 c0 k0 hsl1 hsl2 hsl3 hsl4 hsl5 hsl6 hsl7 hk2 hc2 hs0 hw1
  go_wp2_with fail
  refine (l06Put_any lo' hh' ga gn gc G gid W10 HGL.out HGN.out (HIS.out.later B10.out)).mono ?_;rintro e w11 ⟨gv,rfl,how11,hb11⟩;obtain ⟨ap,cp,hgv⟩:=row_shape how11;subst hgv;obtain ⟨P,hP⟩:∃ P,(pin gid G).length=P:=⟨_,rfl⟩;rw [hP];have x11:=X10.out.later hb11;have k11:=x11.cells;have f11:=x11.loose;obtain ⟨W12,hW12⟩:∃ W12,w11.setCell ⟨ko,3,none⟩ (.slice ap P cp)=W12:=⟨_,rfl⟩
  have g12:w11.grownBy W12 (some ko):=by rw [← hW12];exact wst (wre _ _) _ _
  have hs0:=S0.out;have hw1:=HW1.out
  have x12:Sx W12 ko 27 y tm (.slice a9' (i+k2) c0') (.slice ap P cp):=by rw [← hW12];exact x11.s3 _
  have r12:=(R10.out.later hb11).off g12 (by omega);have b12:Below w.heap.size w W12:=(btr B10.out hb11).trans (below_of_grown g12 (by omega) (btr B10.out hb11).size);have hX10:=X10.out.lt;have z12:OwS W12 W0.heap.size (.slice a9' (i+k2) c0') (Y.take i++Y.drop (i+1)):=(Z10.out.later hb11).kept g12.size (fun j hj=>g12.block j ((Z10.out.later hb11).row.lt j hj).2 (fun e=>by have h2:=N9.out j hj;have h3:=O4.out.lt;simp only [Option.some.injEq] at e;omega)) (fun z hz j j1 j2=>g12.block j (Nat.lt_of_lt_of_le j2 ((Z10.out.later hb11).each z hz).1.top) (fun e=>by simp only [Option.some.injEq] at e;exact HEO.out z (by rcases List.mem_append.1 hz with h | h;exact List.mem_of_mem_take h;exact List.mem_of_mem_drop h) j j1 j2 (.inl e)))
  have i12:OwI W12 W0.heap.size (.slice ap P cp) (pin gid G):=by
   rw [hP] at how11;have h0:W10.heap.size≤w11.heap.size:=hb11.size;have h1:OwI w11 W0.heap.size (.slice ap P cp) (pin gid G):=own_base (by simpa [OwI,hP] using how11) (by have h2:=HWB.out;have h3:=B9.out.size;omega);exact row_kept h1 g12 (fun j hj e=>by rw [hP] at *;have h2:=(how11.lt j hj).1;simp only [Option.some.injEq] at e;omega)
  have hdj:Dj (.slice ap P cp) (.slice a9' (i+k2) c0'):=fun j hj hj'=>by
   have h1:=(Z10.out.row.lt j hj').2;rw [hP] at how11;have h2:=(how11.lt j hj).1
   omega
  have hde:∀ z∈(Y.take i++Y.drop (i+1)),∀ j,Value.ownBlock (.slice ap P cp)=some j→j<z.lo∨z.hi≤j:=fun z hz j hj=>by
   have h1:=(Z10.out.each z hz).1.top;rw [hP] at how11;have h2:=(how11.lt j hj).1
   omega
  have HZZ:Hid ((Y.take i++Y.drop (i+1)).map yd=dbS S gid):=by
   show _=_
   rw [List.map_append,List.map_take,List.map_drop,HYS.out,HDB.out]
  have t12:OwT W12 W0.heap.size (.slice a9' (i+k2) c0') (.slice ap P cp) (dbS S gid) (pin gid G):=⟨(Y.take i++Y.drop (i+1)),HZZ.out,z12,i12,hdj,hde⟩;have X12:=hid x12;have R12:=hid r12;have B12:=hid b12;have T12:=hid t12;have k12:=x12.cells;have q1:=r12.cells;have q2:=r12.loose;clear x11 hb11 how11 g12 x12 r12 b12 z12 i12 hdj hde hX10 hP c10 k10 f10 t12 hs0 hw1
  go_wp2
  clear hW12;have e2:=put4_grown W12 (w.heap.size+1) y tm (.slice a9' (i+k2) c0') (.slice ap P cp);have d1:=(R12.out.put4 y tm (.slice a9' (i+k2) c0') (.slice ap P cp)).cells;unfold put4 at d1 e2;have hbs:=B12.out.size;have hs0:=S0.out;refine bodyPost_ret (v:=.tuple #[.agg #[.int .i64 y,.int .i64 tm,.slice a9' (i+k2) c0',.slice ap P cp],.bool true]) (by simp [results,Tryz.results155,go_sem,d1]) rfl ⟨_,_,by rw [HE.out];rfl,?_,?_⟩
  ·rw [HE.out]
   show OwT _ _ _ _ (dbS S gid) (pin gid G)
   exact (T12.out.grown e2 (by omega)).base (by omega)
  exact B12.out.trans (below_of_grown e2 (by omega) hbs)
end Go.Proofs.YtdkedgedkgabnaaGreatDoor
