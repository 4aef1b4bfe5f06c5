/- Tky. -/
import Derived.Test.YtdkedgedkgabnaaGreatDoorX16
namespace Go.Proofs.YtdkedgedkgabnaaGreatDoor
open Go.RowKit Go.ChangeMaps
set_option maxHeartbeats 16000000
set_option maxRecDepth 100000
structure Stn (w W:World) (OB:Nat) (g:Int) (nm:ByteArray) (t b nx:Int) (m0 g0:Value) (mv gv:Value) (Z:List Z5) (G:List Int):Prop where
 box:Bx W w.heap.size 38 g nm t b nx m0 g0
 ans:Bx W (w.heap.size+1) 38 0 ⟨#[]⟩ 0 0 0 (.slice none 0 0) (.slice none 0 0)
 out:Bx W OB 38 g nm t b nx mv gv
 ml:OwZ W (w.heap.size+1+1) mv Z
 gl:OwI W (w.heap.size+1+1) gv G
 bel:Below w.heap.size w W
theorem Stn.later {w W W':World} {OB:Nat} {g:Int} {nm:ByteArray} {t b nx:Int} {m0 g0:Value} {mv gv:Value} {Z:List Z5} {G:List Int} (h:Stn w W OB g nm t b nx m0 g0 mv gv Z G) (hb:Below W.heap.size W W'):Stn w W' OB g nm t b nx m0 g0 mv gv Z G :=
 ⟨h.box.later hb,h.ans.later hb,h.out.later hb,h.ml.later hb,own_later h.gl hb,btr h.bel hb⟩
theorem specTake_any (lo hh lo' hh':Nat) (g:Int) (nm:ByteArray) (t b nx:Int) (ma:Option Addr) (mn mc:Nat) (ga:Option Addr) (gn gc:Nat) (L:List M4) (G:List Int) (gid:Int) (w:World) (hnm:nm.size≤1048576) (hl:L.length=mn) (hn:mn≤1048576) (hsm:Sm L) (hm:Ms lo hh w ma L) (hgl:G.length=gn) (hgn:gn≤1048576) (hs:Is lo' hh' w ga G) (hg0:ga=none→gc=0) :
  Calls Tryz.prog 134 #[.agg #[.int .i64 g,.string nm,.int .i64 t,.int .i64 b,.int .i64 nx,.slice ma mn mc,.slice ga gn gc],.int .i64 gid] w fun e w' =>
   ∃ mv gv,e=.returned (.tuple #[.agg #[.int .i64 g,.string nm,.int .i64 t,.int .i64 b,.int .i64 nx,mv,gv],.bool (tkOk g nm t b nx L G gid)])∧OwB w' w.heap.size mv gv (tkL (tkOk g nm t b nx L G gid) L gid) (tkG (tkOk g nm t b nx L G gid) G gid)∧Below w.heap.size w w':=by
 obtain ⟨p1,hp1,csp,_⟩:=box_l g nm t b nx mn gn L G hnm hl hn hsm hgl hgn;obtain ⟨mt,hmt⟩:∃ mt,mat gid L 0=mt:=⟨_,rfl⟩
 have HX:Hid (tkOk g nm t b nx L G gid=(p1&&(decide (0≤mt)&&decide (gn<40)))):=by show _=_;rw [hp1.out,← hmt,mat_any,← hgl];rfl
 have HAN:Hid (decide (0≤mt)=L.any (fun m=>decide (m.1=gid))):=by show _=_;rw [← hmt,mat_any]
 obtain ⟨W0,hW0⟩:∃ W0,(w.alloc (.cells #[.int .i64 g,.string nm,.int .i64 t,.int .i64 b,.int .i64 nx,.slice ma mn mc,.slice ga gn gc] 38)).alloc (.cells #[.int .i64 0,.string ⟨#[]⟩,.int .i64 0,.int .i64 0,.int .i64 0,.slice none 0 0,.slice none 0 0] 38)=W0:=⟨_,rfl⟩;obtain ⟨a0,a2,b0,s0⟩:=two_boxes w _ _ _ _ _ _ _ _ _ _ _ _ _ _ _ _ W0 hW0;have c0:=a0.cells;have A0:=hid a0;have A2:=hid a2;have B0:=hid b0;have S0:=hid s0;have HP1:=hid hp1.out;have HMT:=hid hmt;have HL:=hid hl;have HN:=hid hn;have HSM:=hid hsm;have HR:=hid hm;have HGL:=hid hgl;have HGN:=hid hgn;have HIS:=hid hs;have HG0:=hid hg0;have HNM:=hid hnm;clear a0 a2 b0 s0 hp1 hmt hl hsm hm hgl hs hg0 hnm hn
 go_enter Tryz.func134,Tryz.ntmps134
 go_wp2_with fail
 clear hW0;refine (l06Copy_any lo hh lo' hh' g nm t b nx ma mn mc ga gn gc L G W0 HL.out HN.out HSM.out (HR.out.later B0.out) HGL.out HGN.out (HIS.out.later B0.out) HG0.out).mono ?_;rintro e w1 ⟨mv,gv,rfl,how1,hb1⟩;obtain ⟨Z,hZ,hoz,hoi,hdj,hde⟩:=how1;obtain ⟨va,vc,rfl⟩:=hoz.shape;obtain ⟨ag,cg,hgv,_⟩:=hoi.shape;rw [HGL.out] at hgv;subst hgv;obtain ⟨OB,hOB⟩:∃ OB,w1.heap.size=OB:=⟨_,rfl⟩;obtain ⟨W2,hW2⟩:∃ W2,w1.alloc (.cells #[.int .i64 g,.string nm,.int .i64 t,.int .i64 b,.int .i64 nx,.slice va Z.length vc,.slice ag gn cg] 38)=W2:=⟨_,rfl⟩;have hs0:=S0.out
 have b2:Below w1.heap.size w1 W2:=by subst hW2;exact bpush (bre _) _
 have t2:Stn w W2 OB g nm t b nx (.slice ma mn mc) (.slice ga gn gc) (.slice va Z.length vc) (.slice ag gn cg) Z G:=by
  refine ⟨(A0.out.later hb1).later b2,(A2.out.later hb1).later b2,?_,(hoz.base (by omega)).later b2,own_later (own_base hoi (by omega)) b2,btr (btr B0.out hb1) b2⟩;rw [← hW2,← hOB];exact Bx.new w1 _ g nm t b nx _ _
 have HOBB:Hid (w.heap.size+1+1≤OB):=by show _≤_;rw [← hOB];have:=hb1.size;omega
 have HRO:Hid (∀ j,Value.ownBlock (.slice va Z.length vc)=some j→j≠OB):=fun j hj=>by have:=(hoz.row.lt j hj).2;omega
 have HEO:Hid (∀ z∈Z,∀ j,z.2.2.1.ownBlock=some j→j≠OB):=fun z hz j hj=>by have:=((hoz.each z hz).lt j hj).2;omega
 have HDJ:=hid hdj;have HDE:=hid hde;have HZL:=hid hZ;have T2:=hid t2;have k0:=t2.out.cells;have q1:=t2.ans.cells;have q2:=t2.ans.loose;have c0:=t2.box.cells;clear b2 t2 hoz hoi hdj hde hZ hb1 A0 A2 B0 hs0
 go_wp2_with fail
 clear hW2;refine (specMailAt_any lo hh g nm t b nx ma mn mc (.slice ga gn gc) L gid _ HL.out HN.out (HR.out.later T2.out.bel)).mono ?_;rintro e w3 ⟨rfl,hb3⟩;rw [HMT.out];have T3:=hid (T2.out.later hb3);have c0:=T3.out.box.cells;have k0:=T3.out.out.cells;have q1:=T3.out.ans.cells;have q2:=T3.out.ans.loose;clear hb3 T2
 go_wp2_with fail
 refine (csp.out lo hh lo' hh' ma mc ga gc _ (HR.out.later T3.out.bel) (HIS.out.later T3.out.bel)).mono ?_;rintro e w4 ⟨rfl,hb4⟩;have T4:=hid (T3.out.later hb4);have c0:=T4.out.box.cells;have k0:=T4.out.out.cells;have q1:=T4.out.ans.cells;have q2:=T4.out.ans.loose;clear hb4 T3
 cases p1
 ·have HE:Hid (tkOk g nm t b nx L G gid=false):=by show _=_;rw [HX.out];rfl
  go_wp2
  have e2:=set7_grown w4 (w.heap.size+1) g nm t b nx (.slice va Z.length vc) (.slice ag gn cg);have d1:=(T4.out.ans.set7 g nm t b nx (.slice va Z.length vc) (.slice ag gn cg)).cells;unfold set7 at d1 e2;have hbs:=T4.out.bel.size;refine bodyPost_ret (v:=.tuple #[.agg #[.int .i64 g,.string nm,.int .i64 t,.int .i64 b,.int .i64 nx,.slice va Z.length vc,.slice ag gn cg],.bool false]) (by simp [results,Tryz.results134,go_sem,d1]) rfl ⟨_,_,by rw [HE.out],?_,?_⟩
  ·rw [HE.out,tkL_no,tkG_no]
   exact (OwB.grown ⟨Z,HZL.out,T4.out.ml,T4.out.gl,HDJ.out,HDE.out⟩ e2 (by omega)).base (by omega)
  exact T4.out.bel.trans (below_of_grown e2 (by omega) hbs)
 have HP1':=bx_parts HP1.out.symm;have HUQ:=hid HP1'.2.2.2.1
 have HMN:Hid (mn≤10):=by show _≤_;rw [← HL.out];exact HP1'.1
 clear HP1'
 by_cases hmt:mt<0
 ·have HE:Hid (tkOk g nm t b nx L G gid=false):=by show _=_;rw [HX.out];rw [decide_eq_false (by omega:¬ 0≤mt)];rfl
  go_wp2
  have e2:=set7_grown w4 (w.heap.size+1) g nm t b nx (.slice va Z.length vc) (.slice ag gn cg);have d1:=(T4.out.ans.set7 g nm t b nx (.slice va Z.length vc) (.slice ag gn cg)).cells;unfold set7 at d1 e2;have hbs:=T4.out.bel.size;refine bodyPost_ret (v:=.tuple #[.agg #[.int .i64 g,.string nm,.int .i64 t,.int .i64 b,.int .i64 nx,.slice va Z.length vc,.slice ag gn cg],.bool false]) (by simp [results,Tryz.results134,go_sem,d1]) rfl ⟨_,_,by rw [HE.out],?_,?_⟩
  ·rw [HE.out,tkL_no,tkG_no]
   exact (OwB.grown ⟨Z,HZL.out,T4.out.ml,T4.out.gl,HDJ.out,HDE.out⟩ e2 (by omega)).base (by omega)
  exact T4.out.bel.trans (below_of_grown e2 (by omega) hbs)
 by_cases h40:(40:Int)≤(gn:Int)
 ·have HE:Hid (tkOk g nm t b nx L G gid=false):=by show _=_;rw [HX.out];rw [decide_eq_false (by omega:¬ gn<40)];simp
  go_wp2
  have e2:=set7_grown w4 (w.heap.size+1) g nm t b nx (.slice va Z.length vc) (.slice ag gn cg);have d1:=(T4.out.ans.set7 g nm t b nx (.slice va Z.length vc) (.slice ag gn cg)).cells;unfold set7 at d1 e2;have hbs:=T4.out.bel.size;refine bodyPost_ret (v:=.tuple #[.agg #[.int .i64 g,.string nm,.int .i64 t,.int .i64 b,.int .i64 nx,.slice va Z.length vc,.slice ag gn cg],.bool false]) (by simp [results,Tryz.results134,go_sem,d1]) rfl ⟨_,_,by rw [HE.out],?_,?_⟩
  ·rw [HE.out,tkL_no,tkG_no]
   exact (OwB.grown ⟨Z,HZL.out,T4.out.ml,T4.out.gl,HDJ.out,HDE.out⟩ e2 (by omega)).base (by omega)
  exact T4.out.bel.trans (below_of_grown e2 (by omega) hbs)
 have HE:Hid (tkOk g nm t b nx L G gid=true):=by show _=_;rw [HX.out,decide_eq_true (by omega:0≤mt),decide_eq_true (by omega:gn<40)];rfl
 obtain ⟨A,m0,C,hLS,hMG,hNA,hNC⟩:=any_split HUQ.out (by rw [← HAN.out,decide_eq_true (by omega:0≤mt)]);obtain ⟨i,hi⟩:∃ i,A.length=i:=⟨_,rfl⟩
 have hmi:mt=(i:Int):=by
  rw [← HMT.out,hLS,mat_split A m0 C 0 hNA hMG,← hi];simp
 subst hmi
 have hil:i<L.length:=by rw [hLS,List.length_append,List.length_cons];omega
 have hzl:Z.length=L.length:=by rw [← HZL.out,List.length_map]
 rcases T4.out.ml.row.2 with ⟨_,h2⟩ | ⟨gr,cap',cur,h1,hB,_,hvc,_⟩
 ·exfalso;omega
 simp only [Value.slice.injEq] at h1;obtain ⟨rfl,-,rfl⟩:=h1
 have hiz:i<Z.length:=by omega
 obtain ⟨ad2,had2,hsl2⟩:∃ ad2:Addr,(ad2=⟨gr,(i+1)*4,none⟩∨Z.length - (i+1)=0)∧(if vc=i+1 then some (⟨gr,0,none⟩:Addr) else some ⟨gr,(i+1)*4,none⟩)=some ad2:=by
  by_cases hc:vc=i+1
  ·exact ⟨⟨gr,0,none⟩,.inr (by omega),by rw [if_pos hc]⟩
  exact ⟨⟨gr,(i+1)*4,none⟩,.inl rfl,by rw [if_neg hc]⟩
 obtain ⟨k2,hk2⟩:∃ k2,Z.length - (i+1)=k2:=⟨_,rfl⟩;obtain ⟨c2,hc2⟩:∃ c2,vc - (i+1)=c2:=⟨_,rfl⟩
 have hsl1:IntKind.i64.wrap ((i:Int)+1)=(i:Int)+1:=by rw [IntKind.wrap_i64];have:=HMN.out;have:=HL.out;omega
 have hsl3:(0:Int)≤(i:Int)+1∧(i:Int)+1≤(Z.length:Int):=by omega
 have hsl4:((i:Int)+1).toNat=i+1:=by omega
 have hsl5:(0:Int)≤(i:Int)∧(i:Int)≤(vc:Int):=by omega
 have hsl6:¬ vc=0:=by omega
 have hsl7:i≤vc:=by omega
 have hm10:=HMN.out;have hLm:=HL.out;have HK2:=hid hk2;have HOZ:=hid T4.out.ml;have HIZ:=hid hiz
 have HIM:Hid (i<mn∧Z.length=mn):=by show _∧_;omega
 have X4:=hid T4.out.out;have HGB:Hid (w.heap.size+1+1≤gr):=hB;have HGO2:Hid (gr≠OB):=HRO.out gr rfl;have HGL4:Hid (gr<w4.heap.size):=(T4.out.ml.row.lt gr rfl).2;have HWB:Hid (w.heap.size+1+1≤w4.heap.size):=T4.out.ans.lt
 have HFS:Hid (∀ z∈Z,∃ a k c,z.2.2.1=.slice a k c):=fun z hz=>by obtain ⟨a,c,h,_⟩:=Ow.shape (T4.out.ml.each z hz);exact ⟨a,_,c,h⟩
 have HSR:Hid (∀ W:World,W.heap[gr]?=w4.heap[gr]?→∀ j u,(zc (Z.drop (i+1)))[j]?=some u→W.cell? (ad2.add j)=some u):=fun W hW j u hu=>by
  rcases had2 with rfl | h0
  ·have h1:=row_back T4.out.ml (i+1) j u hu
   rw [addr_add] at h1 ⊢;exact (cell_same (p:=⟨gr,_,none⟩) hW).trans h1
  rw [List.drop_of_length_le (by omega)] at hu
  simp [zc] at hu
 have HXL:Hid ((Z.take i++Z.drop (i+1)).length=i+k2):=by
  show _=_
  rw [List.length_append,List.length_take,List.length_drop]
  omega
 have HLS:=hid hLS;have HIA:Hid (i=A.length):=hi.symm;have HMG:=hid hMG;have HNA:=hid hNA;have HNC:=hid hNC
 have hib:i≤10:=by omega
 have hmt0:(0:Int)≤(i:Int):=by omega
 clear hLS hi hMG hNA hNC hil hzl hB hvc had2 hm10 hLm hmt hiz
 go_wp2_with fail
 refine wp_region_noPanic ?_;refine wp_region_held_drew (S:=(fun _=>True)) (by kernel_rfl) (trivial) (fun hHeld=>?_);refine tk 1 ?_;refine tk 3 ?_;refine tk 6 ?_;refine tk 8 ?_;refine tk 9 ?_;clear hHeld;refine wpAnyH_ready (rs:=[0,2,7]) (by kernel_rfl) (by simp) ?_;refine rc (fun K hK=>?x7) ?y7
 case' x7 =>
  go_simp;obtain ⟨W7,hW7⟩:∃ W7,w4.drew.alloc (.cells #[] 78)=W7:=⟨_,rfl⟩;have hW7':(w4.alloc (.cells #[] 78)).drew=W7:=hW7
  first | simp only [hW7] | simp only [hW7'] | trace_state
  have B7:Hid (Below w4.heap.size w4 W7):=by show Below _ _ _;rw [← hW7];exact bpush (bdr (bre _)) _
  have E7:Hid (OwZ W7 (w.heap.size+1+1) (.slice (some ⟨w4.heap.size,0,none⟩) 0 0) []):=by show OwZ _ _ _ _;rw [← hW7];exact ownZ_empty w4.drew _ HWB.out
  have Z7:=hid (HOZ.out.later B7.out);have G7:Hid (gr<W7.heap.size):=(Z7.out.row.lt gr rfl).2;have x7:=X4.out.later B7.out;have k7:=x7.cells;have X7:=hid x7;clear hW7 hW7' x7;refine hK.out _ _ (trivial) (fun hHeld=>?_);clear hK K;try simp only [Act.put,tq]
  clear hHeld;refine wpAnyH_ready (rs:=[2,7]) (by kernel_rfl) (by simp) ?_;refine rc (fun K hK=>?x8) ?y8
  case' x8 =>
   go_simp;refine hK.out _ _ (trivial) (fun hHeld=>?_);clear hK K;try simp only [Act.put,tq]
   refine tk 4 ?_;clear hHeld;refine wpAnyH_ready (rs:=[5,7]) (by kernel_rfl) (by simp) ?_;refine rc (fun K hK=>?x9) ?y9
   case' x9 =>
    refine step_append_rows rfl (.tmp 27) (.tmp 31) rfl (w.heap.size+1+1) (.slice (some ⟨w4.heap.size,0,none⟩) 0 0) 0 [] (by rfl) E7.out.row ⟨gr,0,none⟩ i vc (zc (Z.take i)) (by rfl) (by rw [zc_len,List.length_take,Nat.min_eq_left (Nat.le_of_lt HIZ.out)]) (row_front Z7.out i) (zc_one (fun z hz=>HFS.out z (List.mem_of_mem_take hz))) (by have:=HMN.out;have:=HIM.out;omega) (Nat.le_trans HWB.out B7.out.size) ?_;intro v8 w8 hown8 hg8 hl8;simp only [Nat.zero_add,List.nil_append] at hown8;have R8:=hid hown8;have G8:Hid (W7.grownBy w8 (some w4.heap.size)):=hg8;have L8:=hid hl8;obtain ⟨a8,c8,hv8⟩:=row_shape hown8;subst hv8;have x8:=X7.out.grown G8.out (fun e=>by have h1:=X4.out.lt;simp only [Option.some.injEq] at e;omega);have k8:=x8.cells;clear hown8 hg8 hl8 x8;refine hK.out _ _ (trivial) (fun hHeld=>?_);clear hK K;try simp only [Act.put,tq]
    clear hHeld;refine ry 7 (fun K hK=>?_);go_simp;refine hK.out _ _ (trivial) (fun hHeld=>?_);clear hK K;try simp only [Act.put,tq]
    refine tk 10 ?_;clear hHeld;refine ry 11 (fun K hK=>?_);have s8:w8.heap[gr]?=W7.heap[gr]?:=G8.out.block gr G7.out (fun e=>by have h1:=HGL4.out;simp only [Option.some.injEq] at e;omega);have Z8:=hid (s8);refine step_append_rows rfl (.tmp 32) (.tmp 37) rfl (w.heap.size+1+1) (.slice a8 i c8) i (zc (Z.take i)) (by rfl) R8.out ad2 k2 c2 (zc (Z.drop (i+1))) (by rfl) (by rw [zc_len,List.length_drop,HK2.out]) (fun j u hu=>HSR.out w8 (Z8.out.trans (B7.out.block gr HGL4.out)) j u hu) (zc_one (fun z hz=>HFS.out z (List.mem_of_mem_drop hz))) (by have:=HMN.out;have:=HIM.out;have:=HK2.out;omega) (Nat.le_trans HWB.out (Nat.le_trans B7.out.size G8.out.size)) ?_;intro v9 w9 hown9 hg9 hl9;have R9:=hid hown9;have G9:=hid hg9;have L9:=hid hl9;obtain ⟨a9,c9,hv9⟩:=row_shape hown9;subst hv9
    have N8:Hid (∀ j,Value.ownBlock (.slice a8 i c8)=some j→w4.heap.size≤j):=fun j hj=>by
     rcases L8.out with h | h
     ·rw [h] at hj;simp [Value.ownBlock] at hj;omega
     rw [h] at hj;have h1:=B7.out.size;simp at hj;omega
    have N9:Hid (∀ j,Value.ownBlock (.slice a9 (i+k2) c9)=some j→w4.heap.size≤j):=fun j hj=>by
     rcases L9.out with h | h
     ·rw [h] at hj;exact N8.out j hj
     rw [h] at hj;have h1:=B7.out.size;have h2:=G8.out.size;simp at hj;omega
    have B9:Hid (Below w4.heap.size w4 w9):=((B7.out.trans (below_of_grown G8.out (Nat.le_refl _) B7.out.size))).trans (below_grownR G9.out (fun j hj=>N8.out j hj) (Nat.le_trans B7.out.size G8.out.size));have x9:=X4.out.later B9.out;have k9:=x9.cells;have f9:=x9.loose;have X9:=hid x9;clear hown9 hg9 hl9 s8 x9;refine hK.out _ _ (trivial) (fun hHeld=>?_);clear hK K;try simp only [Act.put,tq]
    refine tk 12 ?_;clear hHeld;refine ry 13 (fun K hK=>?_);go_simp;refine hK.out _ _ (trivial) (fun hHeld=>?_);clear hK K;try simp only [Act.put,tq]
    refine dn ?_
   case' y9 =>
    refine rl (fun K hK=>?_);go_simp;refine hK.out _ _ (trivial) (fun hHeld=>?_);clear hK K;try simp only [Act.put,tq]
    refine tk 10 ?_;clear hHeld;refine ry 5 (fun K hK=>?_);refine step_append_rows rfl (.tmp 27) (.tmp 31) rfl (w.heap.size+1+1) (.slice (some ⟨w4.heap.size,0,none⟩) 0 0) 0 [] (by rfl) E7.out.row ⟨gr,0,none⟩ i vc (zc (Z.take i)) (by rfl) (by rw [zc_len,List.length_take,Nat.min_eq_left (Nat.le_of_lt HIZ.out)]) (row_front Z7.out i) (zc_one (fun z hz=>HFS.out z (List.mem_of_mem_take hz))) (by have:=HMN.out;have:=HIM.out;omega) (Nat.le_trans HWB.out B7.out.size) ?_;intro v8 w8 hown8 hg8 hl8;simp only [Nat.zero_add,List.nil_append] at hown8;have R8:=hid hown8;have G8:Hid (W7.grownBy w8 (some w4.heap.size)):=hg8;have L8:=hid hl8;obtain ⟨a8,c8,hv8⟩:=row_shape hown8;subst hv8;have x8:=X7.out.grown G8.out (fun e=>by have h1:=X4.out.lt;simp only [Option.some.injEq] at e;omega);have k8:=x8.cells;clear hown8 hg8 hl8 x8;refine hK.out _ _ (trivial) (fun hHeld=>?_);clear hK K;try simp only [Act.put,tq]
    clear hHeld;refine ry 11 (fun K hK=>?_);have s8:w8.heap[gr]?=W7.heap[gr]?:=G8.out.block gr G7.out (fun e=>by have h1:=HGL4.out;simp only [Option.some.injEq] at e;omega);have Z8:=hid (s8);refine step_append_rows rfl (.tmp 32) (.tmp 37) rfl (w.heap.size+1+1) (.slice a8 i c8) i (zc (Z.take i)) (by rfl) R8.out ad2 k2 c2 (zc (Z.drop (i+1))) (by rfl) (by rw [zc_len,List.length_drop,HK2.out]) (fun j u hu=>HSR.out w8 (Z8.out.trans (B7.out.block gr HGL4.out)) j u hu) (zc_one (fun z hz=>HFS.out z (List.mem_of_mem_drop hz))) (by have:=HMN.out;have:=HIM.out;have:=HK2.out;omega) (Nat.le_trans HWB.out (Nat.le_trans B7.out.size G8.out.size)) ?_;intro v9 w9 hown9 hg9 hl9;have R9:=hid hown9;have G9:=hid hg9;have L9:=hid hl9;obtain ⟨a9,c9,hv9⟩:=row_shape hown9;subst hv9
    have N8:Hid (∀ j,Value.ownBlock (.slice a8 i c8)=some j→w4.heap.size≤j):=fun j hj=>by
     rcases L8.out with h | h
     ·rw [h] at hj;simp [Value.ownBlock] at hj;omega
     rw [h] at hj;have h1:=B7.out.size;simp at hj;omega
    have N9:Hid (∀ j,Value.ownBlock (.slice a9 (i+k2) c9)=some j→w4.heap.size≤j):=fun j hj=>by
     rcases L9.out with h | h
     ·rw [h] at hj;exact N8.out j hj
     rw [h] at hj;have h1:=B7.out.size;have h2:=G8.out.size;simp at hj;omega
    have B9:Hid (Below w4.heap.size w4 w9):=((B7.out.trans (below_of_grown G8.out (Nat.le_refl _) B7.out.size))).trans (below_grownR G9.out (fun j hj=>N8.out j hj) (Nat.le_trans B7.out.size G8.out.size));have x9:=X4.out.later B9.out;have k9:=x9.cells;have f9:=x9.loose;have X9:=hid x9;clear hown9 hg9 hl9 s8 x9;refine hK.out _ _ (trivial) (fun hHeld=>?_);clear hK K;try simp only [Act.put,tq]
    refine tk 12 ?_;clear hHeld;refine ry 13 (fun K hK=>?_);go_simp;refine hK.out _ _ (trivial) (fun hHeld=>?_);clear hK K;try simp only [Act.put,tq]
    refine dn ?_
  case' y8 =>
   refine rl (fun K hK=>?_);go_simp;refine hK.out _ _ (trivial) (fun hHeld=>?_);clear hK K;try simp only [Act.put,tq]
   refine tk 10 ?_;clear hHeld;refine ry 2 (fun K hK=>?_);go_simp;refine hK.out _ _ (trivial) (fun hHeld=>?_);clear hK K;try simp only [Act.put,tq]
   refine tk 4 ?_;clear hHeld;refine ry 5 (fun K hK=>?_);refine step_append_rows rfl (.tmp 27) (.tmp 31) rfl (w.heap.size+1+1) (.slice (some ⟨w4.heap.size,0,none⟩) 0 0) 0 [] (by rfl) E7.out.row ⟨gr,0,none⟩ i vc (zc (Z.take i)) (by rfl) (by rw [zc_len,List.length_take,Nat.min_eq_left (Nat.le_of_lt HIZ.out)]) (row_front Z7.out i) (zc_one (fun z hz=>HFS.out z (List.mem_of_mem_take hz))) (by have:=HMN.out;have:=HIM.out;omega) (Nat.le_trans HWB.out B7.out.size) ?_;intro v8 w8 hown8 hg8 hl8;simp only [Nat.zero_add,List.nil_append] at hown8;have R8:=hid hown8;have G8:Hid (W7.grownBy w8 (some w4.heap.size)):=hg8;have L8:=hid hl8;obtain ⟨a8,c8,hv8⟩:=row_shape hown8;subst hv8;have x8:=X7.out.grown G8.out (fun e=>by have h1:=X4.out.lt;simp only [Option.some.injEq] at e;omega);have k8:=x8.cells;clear hown8 hg8 hl8 x8;refine hK.out _ _ (trivial) (fun hHeld=>?_);clear hK K;try simp only [Act.put,tq]
   clear hHeld;refine ry 11 (fun K hK=>?_);have s8:w8.heap[gr]?=W7.heap[gr]?:=G8.out.block gr G7.out (fun e=>by have h1:=HGL4.out;simp only [Option.some.injEq] at e;omega);have Z8:=hid (s8);refine step_append_rows rfl (.tmp 32) (.tmp 37) rfl (w.heap.size+1+1) (.slice a8 i c8) i (zc (Z.take i)) (by rfl) R8.out ad2 k2 c2 (zc (Z.drop (i+1))) (by rfl) (by rw [zc_len,List.length_drop,HK2.out]) (fun j u hu=>HSR.out w8 (Z8.out.trans (B7.out.block gr HGL4.out)) j u hu) (zc_one (fun z hz=>HFS.out z (List.mem_of_mem_drop hz))) (by have:=HMN.out;have:=HIM.out;have:=HK2.out;omega) (Nat.le_trans HWB.out (Nat.le_trans B7.out.size G8.out.size)) ?_;intro v9 w9 hown9 hg9 hl9;have R9:=hid hown9;have G9:=hid hg9;have L9:=hid hl9;obtain ⟨a9,c9,hv9⟩:=row_shape hown9;subst hv9
   have N8:Hid (∀ j,Value.ownBlock (.slice a8 i c8)=some j→w4.heap.size≤j):=fun j hj=>by
    rcases L8.out with h | h
    ·rw [h] at hj;simp [Value.ownBlock] at hj;omega
    rw [h] at hj;have h1:=B7.out.size;simp at hj;omega
   have N9:Hid (∀ j,Value.ownBlock (.slice a9 (i+k2) c9)=some j→w4.heap.size≤j):=fun j hj=>by
    rcases L9.out with h | h
    ·rw [h] at hj;exact N8.out j hj
    rw [h] at hj;have h1:=B7.out.size;have h2:=G8.out.size;simp at hj;omega
   have B9:Hid (Below w4.heap.size w4 w9):=((B7.out.trans (below_of_grown G8.out (Nat.le_refl _) B7.out.size))).trans (below_grownR G9.out (fun j hj=>N8.out j hj) (Nat.le_trans B7.out.size G8.out.size));have x9:=X4.out.later B9.out;have k9:=x9.cells;have f9:=x9.loose;have X9:=hid x9;clear hown9 hg9 hl9 s8 x9;refine hK.out _ _ (trivial) (fun hHeld=>?_);clear hK K;try simp only [Act.put,tq]
   refine tk 12 ?_;clear hHeld;refine ry 13 (fun K hK=>?_);go_simp;refine hK.out _ _ (trivial) (fun hHeld=>?_);clear hK K;try simp only [Act.put,tq]
   refine dn ?_
 case' y7 =>
  refine rc (fun K hK=>?x10) ?y10
  case' x10 =>
   go_simp;refine hK.out _ _ (trivial) (fun hHeld=>?_);clear hK K;try simp only [Act.put,tq]
   refine tk 4 ?_;clear hHeld;refine wpAnyH_ready (rs:=[0,7]) (by kernel_rfl) (by simp) ?_;refine rc (fun K hK=>?x11) ?y11
   case' x11 =>
    go_simp;obtain ⟨W7,hW7⟩:∃ W7,w4.drew.alloc (.cells #[] 78)=W7:=⟨_,rfl⟩;have hW7':(w4.alloc (.cells #[] 78)).drew=W7:=hW7
    first | simp only [hW7] | simp only [hW7'] | trace_state
    have B7:Hid (Below w4.heap.size w4 W7):=by show Below _ _ _;rw [← hW7];exact bpush (bdr (bre _)) _
    have E7:Hid (OwZ W7 (w.heap.size+1+1) (.slice (some ⟨w4.heap.size,0,none⟩) 0 0) []):=by show OwZ _ _ _ _;rw [← hW7];exact ownZ_empty w4.drew _ HWB.out
    have Z7:=hid (HOZ.out.later B7.out);have G7:Hid (gr<W7.heap.size):=(Z7.out.row.lt gr rfl).2;have x7:=X4.out.later B7.out;have k7:=x7.cells;have X7:=hid x7;clear hW7 hW7' x7;refine hK.out _ _ (trivial) (fun hHeld=>?_);clear hK K;try simp only [Act.put,tq]
    clear hHeld;refine wpAnyH_ready (rs:=[5,7]) (by kernel_rfl) (by simp) ?_;refine rc (fun K hK=>?x12) ?y12
    case' x12 =>
     refine step_append_rows rfl (.tmp 27) (.tmp 31) rfl (w.heap.size+1+1) (.slice (some ⟨w4.heap.size,0,none⟩) 0 0) 0 [] (by rfl) E7.out.row ⟨gr,0,none⟩ i vc (zc (Z.take i)) (by rfl) (by rw [zc_len,List.length_take,Nat.min_eq_left (Nat.le_of_lt HIZ.out)]) (row_front Z7.out i) (zc_one (fun z hz=>HFS.out z (List.mem_of_mem_take hz))) (by have:=HMN.out;have:=HIM.out;omega) (Nat.le_trans HWB.out B7.out.size) ?_;intro v8 w8 hown8 hg8 hl8;simp only [Nat.zero_add,List.nil_append] at hown8;have R8:=hid hown8;have G8:Hid (W7.grownBy w8 (some w4.heap.size)):=hg8;have L8:=hid hl8;obtain ⟨a8,c8,hv8⟩:=row_shape hown8;subst hv8;have x8:=X7.out.grown G8.out (fun e=>by have h1:=X4.out.lt;simp only [Option.some.injEq] at e;omega);have k8:=x8.cells;clear hown8 hg8 hl8 x8;refine hK.out _ _ (trivial) (fun hHeld=>?_);clear hK K;try simp only [Act.put,tq]
     clear hHeld;refine ry 7 (fun K hK=>?_);go_simp;refine hK.out _ _ (trivial) (fun hHeld=>?_);clear hK K;try simp only [Act.put,tq]
     refine tk 10 ?_;clear hHeld;refine ry 11 (fun K hK=>?_);have s8:w8.heap[gr]?=W7.heap[gr]?:=G8.out.block gr G7.out (fun e=>by have h1:=HGL4.out;simp only [Option.some.injEq] at e;omega);have Z8:=hid (s8);refine step_append_rows rfl (.tmp 32) (.tmp 37) rfl (w.heap.size+1+1) (.slice a8 i c8) i (zc (Z.take i)) (by rfl) R8.out ad2 k2 c2 (zc (Z.drop (i+1))) (by rfl) (by rw [zc_len,List.length_drop,HK2.out]) (fun j u hu=>HSR.out w8 (Z8.out.trans (B7.out.block gr HGL4.out)) j u hu) (zc_one (fun z hz=>HFS.out z (List.mem_of_mem_drop hz))) (by have:=HMN.out;have:=HIM.out;have:=HK2.out;omega) (Nat.le_trans HWB.out (Nat.le_trans B7.out.size G8.out.size)) ?_;intro v9 w9 hown9 hg9 hl9;have R9:=hid hown9;have G9:=hid hg9;have L9:=hid hl9;obtain ⟨a9,c9,hv9⟩:=row_shape hown9;subst hv9
     have N8:Hid (∀ j,Value.ownBlock (.slice a8 i c8)=some j→w4.heap.size≤j):=fun j hj=>by
      rcases L8.out with h | h
      ·rw [h] at hj;simp [Value.ownBlock] at hj;omega
      rw [h] at hj;have h1:=B7.out.size;simp at hj;omega
     have N9:Hid (∀ j,Value.ownBlock (.slice a9 (i+k2) c9)=some j→w4.heap.size≤j):=fun j hj=>by
      rcases L9.out with h | h
      ·rw [h] at hj;exact N8.out j hj
      rw [h] at hj;have h1:=B7.out.size;have h2:=G8.out.size;simp at hj;omega
     have B9:Hid (Below w4.heap.size w4 w9):=((B7.out.trans (below_of_grown G8.out (Nat.le_refl _) B7.out.size))).trans (below_grownR G9.out (fun j hj=>N8.out j hj) (Nat.le_trans B7.out.size G8.out.size));have x9:=X4.out.later B9.out;have k9:=x9.cells;have f9:=x9.loose;have X9:=hid x9;clear hown9 hg9 hl9 s8 x9;refine hK.out _ _ (trivial) (fun hHeld=>?_);clear hK K;try simp only [Act.put,tq]
     refine tk 12 ?_;clear hHeld;refine ry 13 (fun K hK=>?_);go_simp;refine hK.out _ _ (trivial) (fun hHeld=>?_);clear hK K;try simp only [Act.put,tq]
     refine dn ?_
    case' y12 =>
     refine rl (fun K hK=>?_);go_simp;refine hK.out _ _ (trivial) (fun hHeld=>?_);clear hK K;try simp only [Act.put,tq]
     refine tk 10 ?_;clear hHeld;refine ry 5 (fun K hK=>?_);refine step_append_rows rfl (.tmp 27) (.tmp 31) rfl (w.heap.size+1+1) (.slice (some ⟨w4.heap.size,0,none⟩) 0 0) 0 [] (by rfl) E7.out.row ⟨gr,0,none⟩ i vc (zc (Z.take i)) (by rfl) (by rw [zc_len,List.length_take,Nat.min_eq_left (Nat.le_of_lt HIZ.out)]) (row_front Z7.out i) (zc_one (fun z hz=>HFS.out z (List.mem_of_mem_take hz))) (by have:=HMN.out;have:=HIM.out;omega) (Nat.le_trans HWB.out B7.out.size) ?_;intro v8 w8 hown8 hg8 hl8;simp only [Nat.zero_add,List.nil_append] at hown8;have R8:=hid hown8;have G8:Hid (W7.grownBy w8 (some w4.heap.size)):=hg8;have L8:=hid hl8;obtain ⟨a8,c8,hv8⟩:=row_shape hown8;subst hv8;have x8:=X7.out.grown G8.out (fun e=>by have h1:=X4.out.lt;simp only [Option.some.injEq] at e;omega);have k8:=x8.cells;clear hown8 hg8 hl8 x8;refine hK.out _ _ (trivial) (fun hHeld=>?_);clear hK K;try simp only [Act.put,tq]
     clear hHeld;refine ry 11 (fun K hK=>?_);have s8:w8.heap[gr]?=W7.heap[gr]?:=G8.out.block gr G7.out (fun e=>by have h1:=HGL4.out;simp only [Option.some.injEq] at e;omega);have Z8:=hid (s8);refine step_append_rows rfl (.tmp 32) (.tmp 37) rfl (w.heap.size+1+1) (.slice a8 i c8) i (zc (Z.take i)) (by rfl) R8.out ad2 k2 c2 (zc (Z.drop (i+1))) (by rfl) (by rw [zc_len,List.length_drop,HK2.out]) (fun j u hu=>HSR.out w8 (Z8.out.trans (B7.out.block gr HGL4.out)) j u hu) (zc_one (fun z hz=>HFS.out z (List.mem_of_mem_drop hz))) (by have:=HMN.out;have:=HIM.out;have:=HK2.out;omega) (Nat.le_trans HWB.out (Nat.le_trans B7.out.size G8.out.size)) ?_;intro v9 w9 hown9 hg9 hl9;have R9:=hid hown9;have G9:=hid hg9;have L9:=hid hl9;obtain ⟨a9,c9,hv9⟩:=row_shape hown9;subst hv9
     have N8:Hid (∀ j,Value.ownBlock (.slice a8 i c8)=some j→w4.heap.size≤j):=fun j hj=>by
      rcases L8.out with h | h
      ·rw [h] at hj;simp [Value.ownBlock] at hj;omega
      rw [h] at hj;have h1:=B7.out.size;simp at hj;omega
     have N9:Hid (∀ j,Value.ownBlock (.slice a9 (i+k2) c9)=some j→w4.heap.size≤j):=fun j hj=>by
      rcases L9.out with h | h
      ·rw [h] at hj;exact N8.out j hj
      rw [h] at hj;have h1:=B7.out.size;have h2:=G8.out.size;simp at hj;omega
     have B9:Hid (Below w4.heap.size w4 w9):=((B7.out.trans (below_of_grown G8.out (Nat.le_refl _) B7.out.size))).trans (below_grownR G9.out (fun j hj=>N8.out j hj) (Nat.le_trans B7.out.size G8.out.size));have x9:=X4.out.later B9.out;have k9:=x9.cells;have f9:=x9.loose;have X9:=hid x9;clear hown9 hg9 hl9 s8 x9;refine hK.out _ _ (trivial) (fun hHeld=>?_);clear hK K;try simp only [Act.put,tq]
     refine tk 12 ?_;clear hHeld;refine ry 13 (fun K hK=>?_);go_simp;refine hK.out _ _ (trivial) (fun hHeld=>?_);clear hK K;try simp only [Act.put,tq]
     refine dn ?_
   case' y11 =>
    refine rl (fun K hK=>?_);go_simp;refine hK.out _ _ (trivial) (fun hHeld=>?_);clear hK K;try simp only [Act.put,tq]
    refine tk 10 ?_;clear hHeld;refine ry 0 (fun K hK=>?_);go_simp;obtain ⟨W7,hW7⟩:∃ W7,w4.drew.alloc (.cells #[] 78)=W7:=⟨_,rfl⟩;have hW7':(w4.alloc (.cells #[] 78)).drew=W7:=hW7
    first | simp only [hW7] | simp only [hW7'] | trace_state
    have B7:Hid (Below w4.heap.size w4 W7):=by show Below _ _ _;rw [← hW7];exact bpush (bdr (bre _)) _
    have E7:Hid (OwZ W7 (w.heap.size+1+1) (.slice (some ⟨w4.heap.size,0,none⟩) 0 0) []):=by show OwZ _ _ _ _;rw [← hW7];exact ownZ_empty w4.drew _ HWB.out
    have Z7:=hid (HOZ.out.later B7.out);have G7:Hid (gr<W7.heap.size):=(Z7.out.row.lt gr rfl).2;have x7:=X4.out.later B7.out;have k7:=x7.cells;have X7:=hid x7;clear hW7 hW7' x7;refine hK.out _ _ (trivial) (fun hHeld=>?_);clear hK K;try simp only [Act.put,tq]
    clear hHeld;refine ry 5 (fun K hK=>?_);refine step_append_rows rfl (.tmp 27) (.tmp 31) rfl (w.heap.size+1+1) (.slice (some ⟨w4.heap.size,0,none⟩) 0 0) 0 [] (by rfl) E7.out.row ⟨gr,0,none⟩ i vc (zc (Z.take i)) (by rfl) (by rw [zc_len,List.length_take,Nat.min_eq_left (Nat.le_of_lt HIZ.out)]) (row_front Z7.out i) (zc_one (fun z hz=>HFS.out z (List.mem_of_mem_take hz))) (by have:=HMN.out;have:=HIM.out;omega) (Nat.le_trans HWB.out B7.out.size) ?_;intro v8 w8 hown8 hg8 hl8;simp only [Nat.zero_add,List.nil_append] at hown8;have R8:=hid hown8;have G8:Hid (W7.grownBy w8 (some w4.heap.size)):=hg8;have L8:=hid hl8;obtain ⟨a8,c8,hv8⟩:=row_shape hown8;subst hv8;have x8:=X7.out.grown G8.out (fun e=>by have h1:=X4.out.lt;simp only [Option.some.injEq] at e;omega);have k8:=x8.cells;clear hown8 hg8 hl8 x8;refine hK.out _ _ (trivial) (fun hHeld=>?_);clear hK K;try simp only [Act.put,tq]
    clear hHeld;refine ry 11 (fun K hK=>?_);have s8:w8.heap[gr]?=W7.heap[gr]?:=G8.out.block gr G7.out (fun e=>by have h1:=HGL4.out;simp only [Option.some.injEq] at e;omega);have Z8:=hid (s8);refine step_append_rows rfl (.tmp 32) (.tmp 37) rfl (w.heap.size+1+1) (.slice a8 i c8) i (zc (Z.take i)) (by rfl) R8.out ad2 k2 c2 (zc (Z.drop (i+1))) (by rfl) (by rw [zc_len,List.length_drop,HK2.out]) (fun j u hu=>HSR.out w8 (Z8.out.trans (B7.out.block gr HGL4.out)) j u hu) (zc_one (fun z hz=>HFS.out z (List.mem_of_mem_drop hz))) (by have:=HMN.out;have:=HIM.out;have:=HK2.out;omega) (Nat.le_trans HWB.out (Nat.le_trans B7.out.size G8.out.size)) ?_;intro v9 w9 hown9 hg9 hl9;have R9:=hid hown9;have G9:=hid hg9;have L9:=hid hl9;obtain ⟨a9,c9,hv9⟩:=row_shape hown9;subst hv9
    have N8:Hid (∀ j,Value.ownBlock (.slice a8 i c8)=some j→w4.heap.size≤j):=fun j hj=>by
     rcases L8.out with h | h
     ·rw [h] at hj;simp [Value.ownBlock] at hj;omega
     rw [h] at hj;have h1:=B7.out.size;simp at hj;omega
    have N9:Hid (∀ j,Value.ownBlock (.slice a9 (i+k2) c9)=some j→w4.heap.size≤j):=fun j hj=>by
     rcases L9.out with h | h
     ·rw [h] at hj;exact N8.out j hj
     rw [h] at hj;have h1:=B7.out.size;have h2:=G8.out.size;simp at hj;omega
    have B9:Hid (Below w4.heap.size w4 w9):=((B7.out.trans (below_of_grown G8.out (Nat.le_refl _) B7.out.size))).trans (below_grownR G9.out (fun j hj=>N8.out j hj) (Nat.le_trans B7.out.size G8.out.size));have x9:=X4.out.later B9.out;have k9:=x9.cells;have f9:=x9.loose;have X9:=hid x9;clear hown9 hg9 hl9 s8 x9;refine hK.out _ _ (trivial) (fun hHeld=>?_);clear hK K;try simp only [Act.put,tq]
    refine tk 12 ?_;clear hHeld;refine ry 13 (fun K hK=>?_);go_simp;refine hK.out _ _ (trivial) (fun hHeld=>?_);clear hK K;try simp only [Act.put,tq]
    refine dn ?_
  case' y10 =>
   refine rl (fun K hK=>?_);go_simp;refine hK.out _ _ (trivial) (fun hHeld=>?_);clear hK K;try simp only [Act.put,tq]
   refine tk 10 ?_;clear hHeld;refine wpAnyH_ready (rs:=[0,2]) (by kernel_rfl) (by simp) ?_;refine rc (fun K hK=>?x13) ?y13
   case' x13 =>
    go_simp;obtain ⟨W7,hW7⟩:∃ W7,w4.drew.alloc (.cells #[] 78)=W7:=⟨_,rfl⟩;have hW7':(w4.alloc (.cells #[] 78)).drew=W7:=hW7
    first | simp only [hW7] | simp only [hW7'] | trace_state
    have B7:Hid (Below w4.heap.size w4 W7):=by show Below _ _ _;rw [← hW7];exact bpush (bdr (bre _)) _
    have E7:Hid (OwZ W7 (w.heap.size+1+1) (.slice (some ⟨w4.heap.size,0,none⟩) 0 0) []):=by show OwZ _ _ _ _;rw [← hW7];exact ownZ_empty w4.drew _ HWB.out
    have Z7:=hid (HOZ.out.later B7.out);have G7:Hid (gr<W7.heap.size):=(Z7.out.row.lt gr rfl).2;have x7:=X4.out.later B7.out;have k7:=x7.cells;have X7:=hid x7;clear hW7 hW7' x7;refine hK.out _ _ (trivial) (fun hHeld=>?_);clear hK K;try simp only [Act.put,tq]
    clear hHeld;refine ry 2 (fun K hK=>?_);go_simp;refine hK.out _ _ (trivial) (fun hHeld=>?_);clear hK K;try simp only [Act.put,tq]
    refine tk 4 ?_;clear hHeld;refine ry 5 (fun K hK=>?_);refine step_append_rows rfl (.tmp 27) (.tmp 31) rfl (w.heap.size+1+1) (.slice (some ⟨w4.heap.size,0,none⟩) 0 0) 0 [] (by rfl) E7.out.row ⟨gr,0,none⟩ i vc (zc (Z.take i)) (by rfl) (by rw [zc_len,List.length_take,Nat.min_eq_left (Nat.le_of_lt HIZ.out)]) (row_front Z7.out i) (zc_one (fun z hz=>HFS.out z (List.mem_of_mem_take hz))) (by have:=HMN.out;have:=HIM.out;omega) (Nat.le_trans HWB.out B7.out.size) ?_;intro v8 w8 hown8 hg8 hl8;simp only [Nat.zero_add,List.nil_append] at hown8;have R8:=hid hown8;have G8:Hid (W7.grownBy w8 (some w4.heap.size)):=hg8;have L8:=hid hl8;obtain ⟨a8,c8,hv8⟩:=row_shape hown8;subst hv8;have x8:=X7.out.grown G8.out (fun e=>by have h1:=X4.out.lt;simp only [Option.some.injEq] at e;omega);have k8:=x8.cells;clear hown8 hg8 hl8 x8;refine hK.out _ _ (trivial) (fun hHeld=>?_);clear hK K;try simp only [Act.put,tq]
    clear hHeld;refine ry 11 (fun K hK=>?_);have s8:w8.heap[gr]?=W7.heap[gr]?:=G8.out.block gr G7.out (fun e=>by have h1:=HGL4.out;simp only [Option.some.injEq] at e;omega);have Z8:=hid (s8);refine step_append_rows rfl (.tmp 32) (.tmp 37) rfl (w.heap.size+1+1) (.slice a8 i c8) i (zc (Z.take i)) (by rfl) R8.out ad2 k2 c2 (zc (Z.drop (i+1))) (by rfl) (by rw [zc_len,List.length_drop,HK2.out]) (fun j u hu=>HSR.out w8 (Z8.out.trans (B7.out.block gr HGL4.out)) j u hu) (zc_one (fun z hz=>HFS.out z (List.mem_of_mem_drop hz))) (by have:=HMN.out;have:=HIM.out;have:=HK2.out;omega) (Nat.le_trans HWB.out (Nat.le_trans B7.out.size G8.out.size)) ?_;intro v9 w9 hown9 hg9 hl9;have R9:=hid hown9;have G9:=hid hg9;have L9:=hid hl9;obtain ⟨a9,c9,hv9⟩:=row_shape hown9;subst hv9
    have N8:Hid (∀ j,Value.ownBlock (.slice a8 i c8)=some j→w4.heap.size≤j):=fun j hj=>by
     rcases L8.out with h | h
     ·rw [h] at hj;simp [Value.ownBlock] at hj;omega
     rw [h] at hj;have h1:=B7.out.size;simp at hj;omega
    have N9:Hid (∀ j,Value.ownBlock (.slice a9 (i+k2) c9)=some j→w4.heap.size≤j):=fun j hj=>by
     rcases L9.out with h | h
     ·rw [h] at hj;exact N8.out j hj
     rw [h] at hj;have h1:=B7.out.size;have h2:=G8.out.size;simp at hj;omega
    have B9:Hid (Below w4.heap.size w4 w9):=((B7.out.trans (below_of_grown G8.out (Nat.le_refl _) B7.out.size))).trans (below_grownR G9.out (fun j hj=>N8.out j hj) (Nat.le_trans B7.out.size G8.out.size));have x9:=X4.out.later B9.out;have k9:=x9.cells;have f9:=x9.loose;have X9:=hid x9;clear hown9 hg9 hl9 s8 x9;refine hK.out _ _ (trivial) (fun hHeld=>?_);clear hK K;try simp only [Act.put,tq]
    refine tk 12 ?_;clear hHeld;refine ry 13 (fun K hK=>?_);go_simp;refine hK.out _ _ (trivial) (fun hHeld=>?_);clear hK K;try simp only [Act.put,tq]
    refine dn ?_
   case' y13 =>
    refine rl (fun K hK=>?_);go_simp;refine hK.out _ _ (trivial) (fun hHeld=>?_);clear hK K;try simp only [Act.put,tq]
    refine tk 4 ?_;clear hHeld;refine ry 0 (fun K hK=>?_);go_simp;obtain ⟨W7,hW7⟩:∃ W7,w4.drew.alloc (.cells #[] 78)=W7:=⟨_,rfl⟩;have hW7':(w4.alloc (.cells #[] 78)).drew=W7:=hW7
    first | simp only [hW7] | simp only [hW7'] | trace_state
    have B7:Hid (Below w4.heap.size w4 W7):=by show Below _ _ _;rw [← hW7];exact bpush (bdr (bre _)) _
    have E7:Hid (OwZ W7 (w.heap.size+1+1) (.slice (some ⟨w4.heap.size,0,none⟩) 0 0) []):=by show OwZ _ _ _ _;rw [← hW7];exact ownZ_empty w4.drew _ HWB.out
    have Z7:=hid (HOZ.out.later B7.out);have G7:Hid (gr<W7.heap.size):=(Z7.out.row.lt gr rfl).2;have x7:=X4.out.later B7.out;have k7:=x7.cells;have X7:=hid x7;clear hW7 hW7' x7;refine hK.out _ _ (trivial) (fun hHeld=>?_);clear hK K;try simp only [Act.put,tq]
    clear hHeld;refine ry 5 (fun K hK=>?_);refine step_append_rows rfl (.tmp 27) (.tmp 31) rfl (w.heap.size+1+1) (.slice (some ⟨w4.heap.size,0,none⟩) 0 0) 0 [] (by rfl) E7.out.row ⟨gr,0,none⟩ i vc (zc (Z.take i)) (by rfl) (by rw [zc_len,List.length_take,Nat.min_eq_left (Nat.le_of_lt HIZ.out)]) (row_front Z7.out i) (zc_one (fun z hz=>HFS.out z (List.mem_of_mem_take hz))) (by have:=HMN.out;have:=HIM.out;omega) (Nat.le_trans HWB.out B7.out.size) ?_;intro v8 w8 hown8 hg8 hl8;simp only [Nat.zero_add,List.nil_append] at hown8;have R8:=hid hown8;have G8:Hid (W7.grownBy w8 (some w4.heap.size)):=hg8;have L8:=hid hl8;obtain ⟨a8,c8,hv8⟩:=row_shape hown8;subst hv8;have x8:=X7.out.grown G8.out (fun e=>by have h1:=X4.out.lt;simp only [Option.some.injEq] at e;omega);have k8:=x8.cells;clear hown8 hg8 hl8 x8;refine hK.out _ _ (trivial) (fun hHeld=>?_);clear hK K;try simp only [Act.put,tq]
    clear hHeld;refine ry 11 (fun K hK=>?_);have s8:w8.heap[gr]?=W7.heap[gr]?:=G8.out.block gr G7.out (fun e=>by have h1:=HGL4.out;simp only [Option.some.injEq] at e;omega);have Z8:=hid (s8);refine step_append_rows rfl (.tmp 32) (.tmp 37) rfl (w.heap.size+1+1) (.slice a8 i c8) i (zc (Z.take i)) (by rfl) R8.out ad2 k2 c2 (zc (Z.drop (i+1))) (by rfl) (by rw [zc_len,List.length_drop,HK2.out]) (fun j u hu=>HSR.out w8 (Z8.out.trans (B7.out.block gr HGL4.out)) j u hu) (zc_one (fun z hz=>HFS.out z (List.mem_of_mem_drop hz))) (by have:=HMN.out;have:=HIM.out;have:=HK2.out;omega) (Nat.le_trans HWB.out (Nat.le_trans B7.out.size G8.out.size)) ?_;intro v9 w9 hown9 hg9 hl9;have R9:=hid hown9;have G9:=hid hg9;have L9:=hid hl9;obtain ⟨a9,c9,hv9⟩:=row_shape hown9;subst hv9
    have N8:Hid (∀ j,Value.ownBlock (.slice a8 i c8)=some j→w4.heap.size≤j):=fun j hj=>by
     rcases L8.out with h | h
     ·rw [h] at hj;simp [Value.ownBlock] at hj;omega
     rw [h] at hj;have h1:=B7.out.size;simp at hj;omega
    have N9:Hid (∀ j,Value.ownBlock (.slice a9 (i+k2) c9)=some j→w4.heap.size≤j):=fun j hj=>by
     rcases L9.out with h | h
     ·rw [h] at hj;exact N8.out j hj
     rw [h] at hj;have h1:=B7.out.size;have h2:=G8.out.size;simp at hj;omega
    have B9:Hid (Below w4.heap.size w4 w9):=((B7.out.trans (below_of_grown G8.out (Nat.le_refl _) B7.out.size))).trans (below_grownR G9.out (fun j hj=>N8.out j hj) (Nat.le_trans B7.out.size G8.out.size));have x9:=X4.out.later B9.out;have k9:=x9.cells;have f9:=x9.loose;have X9:=hid x9;clear hown9 hg9 hl9 s8 x9;refine hK.out _ _ (trivial) (fun hHeld=>?_);clear hK K;try simp only [Act.put,tq]
    refine tk 12 ?_;clear hHeld;refine ry 13 (fun K hK=>?_);go_simp;refine hK.out _ _ (trivial) (fun hHeld=>?_);clear hK K;try simp only [Act.put,tq]
    refine dn ?_
 all_goals
  obtain ⟨W10,hW10⟩:∃ W10,w9.setCell ⟨OB,5,none⟩ (.slice a9 (i+k2) c9)=W10:=⟨_,rfl⟩
  have g10:w9.grownBy W10 (some OB):=by rw [← hW10];exact wst (wre _ _) _ _
  have x10:Bx W10 OB 38 g nm t b nx (.slice a9 (i+k2) c9) (.slice ag gn cg):=by rw [← hW10];exact X9.out.s5 _
  have r10:Bx W10 (w.heap.size+1) 38 0 ⟨#[]⟩ 0 0 0 (.slice none 0 0) (.slice none 0 0):=(T4.out.ans.later B9.out).grown g10 (fun e=>by have h1:=HOBB.out;simp only [Option.some.injEq] at e;omega);have a10:Bx W10 w.heap.size 38 g nm t b nx (.slice ma mn mc) (.slice ga gn gc):=(T4.out.box.later B9.out).grown g10 (fun e=>by have h1:=HOBB.out;simp only [Option.some.injEq] at e;omega);have b10:Below w.heap.size w W10:=(btr T4.out.bel B9.out).trans (below_of_grown g10 (by have h1:=HOBB.out;omega) (btr T4.out.bel B9.out).size)
  have z10:OwZ W10 (w.heap.size+1+1) (.slice a9 (i+k2) c9) (Z.take i++Z.drop (i+1)):=by
   refine HOZ.out.moved (List.Sublist.trans ((List.Sublist.refl (Z.take i)).append (List.drop_sublist_drop_left Z (Nat.le_succ i))) (by rw [List.take_append_drop];exact List.Sublist.refl _)) ?_ (fun z hz j hj=>?_)
   ·have h1:=R9.out
    rw [← zc_app] at h1;rw [HXL.out];exact row_kept h1 g10 (fun j hj e=>by have h2:=N9.out j hj;have h3:=X4.out.lt;simp only [Option.some.injEq] at e;omega)
   have h1:=((HOZ.out.each z hz).lt j hj).2;refine ⟨(g10.block j (Nat.lt_of_lt_of_le h1 B9.out.size) (fun e=>HEO.out z hz j hj (by simpa using e))).trans (B9.out.block j h1),fun e=>?_⟩;have h2:=N9.out j e
   omega
  simp only [hW10];have X10:=hid x10;have R10:=hid r10;have A10:=hid a10;have B10:=hid b10;have Z10:=hid z10;have c10:=a10.cells;have k10:=x10.cells;have f10:=x10.loose;clear hHeld hW10 g10 x10 r10 a10 b10 z10 k9 f9 c0 k0 q1 q2 hsl1 hsl2 hsl3 hsl4 hsl5 hsl6 hsl7 hk2 hc2
  go_wp2_with fail
  refine (l06Put_any lo' hh' ga gn gc G gid W10 HGL.out HGN.out (HIS.out.later B10.out)).mono ?_;rintro e w11 ⟨gv,rfl,how11,hb11⟩;obtain ⟨ap,cp,hgv⟩:=row_shape how11;subst hgv;obtain ⟨P,hP⟩:∃ P,(pin gid G).length=P:=⟨_,rfl⟩;rw [hP];have x11:=X10.out.later hb11;have k11:=x11.cells;have f11:=x11.loose;obtain ⟨W12,hW12⟩:∃ W12,w11.setCell ⟨OB,6,none⟩ (.slice ap P cp)=W12:=⟨_,rfl⟩
  have g12:w11.grownBy W12 (some OB):=by rw [← hW12];exact wst (wre _ _) _ _
  have x12:Bx W12 OB 38 g nm t b nx (.slice a9 (i+k2) c9) (.slice ap P cp):=by rw [← hW12];exact x11.s6 _
  have r12:Bx W12 (w.heap.size+1) 38 0 ⟨#[]⟩ 0 0 0 (.slice none 0 0) (.slice none 0 0):=(R10.out.later hb11).grown g12 (fun e=>by have h1:=HOBB.out;simp only [Option.some.injEq] at e;omega);have b12:Below w.heap.size w W12:=(btr B10.out hb11).trans (below_of_grown g12 (by have h1:=HOBB.out;omega) (btr B10.out hb11).size);have hX10:=X10.out.lt;have z12:OwZ W12 (w.heap.size+1+1) (.slice a9 (i+k2) c9) (Z.take i++Z.drop (i+1)):=(Z10.out.later hb11).far2 g12 (fun j hj=>by have h2:=N9.out j hj;have h3:=X4.out.lt;omega) (fun z hz j hj=>HEO.out z (by rcases List.mem_append.1 hz with h | h;exact List.mem_of_mem_take h;exact List.mem_of_mem_drop h) j hj)
  have i12:OwI W12 (w.heap.size+1+1) (.slice ap P cp) (pin gid G):=by
   rw [hP] at how11;have h0:W10.heap.size≤w11.heap.size:=hb11.size;have h1:OwI w11 (w.heap.size+1+1) (.slice ap P cp) (pin gid G):=own_base (by simpa [OwI,hP] using how11) (by have h2:=HOBB.out;omega);exact row_kept h1 g12 (fun j hj e=>by rw [hP] at *;have h2:=(how11.lt j hj).1;simp only [Option.some.injEq] at e;omega)
  have hdj:Dj (.slice ap P cp) (.slice a9 (i+k2) c9):=fun j hj hj'=>by
   have h1:=(Z10.out.row.lt j hj').2;rw [hP] at how11;have h2:=(how11.lt j hj).1
   omega
  have hde:∀ z∈(Z.take i++Z.drop (i+1)),Dj (.slice ap P cp) z.2.2.1:=fun z hz j hj hj'=>by
   have h1:=((Z10.out.each z hz).lt j hj').2;rw [hP] at how11;have h2:=(how11.lt j hj).1
   omega
  have HZ:Hid ((Z.take i++Z.drop (i+1)).map md=tkL true L gid):=by
   show _=_
   rw [List.map_append,List.map_take,List.map_drop,HZL.out,HLS.out,tkL_split HMG.out HNA.out HNC.out,HIA.out];exact mid_cut A m0 C
  have X12:=hid x12;have R12:=hid r12;have B12:=hid b12;have Z12:=hid z12;have I12:=hid i12;have DJ:=hid hdj;have DE:=hid hde;have k12:=x12.cells;have q1:=r12.cells;have q2:=r12.loose;clear x11 hb11 how11 g12 x12 r12 b12 z12 i12 hdj hde hX10 hP c10 k10 f10
  go_wp2
  clear hW12;have e2:=set7_grown W12 (w.heap.size+1) g nm t b nx (.slice a9 (i+k2) c9) (.slice ap P cp);have d1:=(R12.out.set7 g nm t b nx (.slice a9 (i+k2) c9) (.slice ap P cp)).cells;unfold set7 at d1 e2;have hbs:=B12.out.size;refine bodyPost_ret (v:=.tuple #[.agg #[.int .i64 g,.string nm,.int .i64 t,.int .i64 b,.int .i64 nx,.slice a9 (i+k2) c9,.slice ap P cp],.bool true]) (by simp [results,Tryz.results134,go_sem,d1]) rfl ⟨_,_,by rw [HE.out],?_,?_⟩
  ·rw [HE.out]
   exact (OwB.grown ⟨(Z.take i++Z.drop (i+1)),HZ.out,Z12.out,by rw [tkG,if_pos rfl];exact I12.out,DJ.out,DE.out⟩ e2 (by omega)).base (by omega)
  exact B12.out.trans (below_of_grown e2 (by omega) hbs)
end Go.Proofs.YtdkedgedkgabnaaGreatDoor
