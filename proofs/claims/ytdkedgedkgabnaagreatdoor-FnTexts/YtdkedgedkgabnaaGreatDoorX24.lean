/- Tiw. -/
import Derived.Test.YtdkedgedkgabnaaGreatDoorX23
namespace Go.Proofs.YtdkedgedkgabnaaGreatDoor
open Go.RowKit Go.ChangeMaps
set_option maxHeartbeats 16000000
set_option maxRecDepth 100000
theorem filt_split {S:List X7} {gid:Int} (hp:S.Pairwise (fun a b=>a.1<b.1)) (hn:∀ x∈S,x.1≠gid) :
  S.filter (fun x=>decide (x.1<gid))=S.take (S.countP (fun b=>decide (b.1<gid)))∧S.filter (fun x=>decide (gid<x.1))=S.drop (S.countP (fun b=>decide (b.1<gid))):=by
 induction S with
 | nil=>simp
 | cons a S ih =>
  have hpc:=List.pairwise_cons.1 hp;obtain ⟨h1,h2⟩:=ih hpc.2 (fun x hx=>hn x (by simp [hx]));have hna:=hn a (by simp)
  by_cases hl:a.1<gid
  ·rw [List.filter_cons_of_pos (by simpa using hl),List.countP_cons_of_pos (by simpa using hl),List.filter_cons_of_neg (by simp;omega),List.take_succ_cons,List.drop_succ_cons,h1,h2]
   exact ⟨rfl,rfl⟩
  have hall:∀ x∈S,gid<x.1:=fun x hx=>by have:=hpc.1 x hx;omega
  have hc:(a::S).countP (fun b=>decide (b.1<gid))=0:=by
   rw [List.countP_eq_zero];intro x hx
   rcases List.mem_cons.1 hx with rfl | hx
   ·simpa using hl
   have:=hall x hx
   simp;omega
  rw [hc];refine ⟨?_,?_⟩
  ·rw [List.take_zero,List.filter_eq_nil_iff]
   intro x hx
   rcases List.mem_cons.1 hx with rfl | hx
   ·simpa using hl
   have:=hall x hx
   simp;omega
  rw [List.drop_zero,List.filter_eq_self];intro x hx
  rcases List.mem_cons.1 hx with rfl | hx
  ·simp;omega
  simpa using hall x hx
theorem insX_filt {S:List X7} {x:X7} (hp:S.Pairwise (fun a b=>a.1<b.1)) (hn:∀ z∈S,z.1≠x.1):insX x S=S.filter (fun z=>decide (z.1<x.1))++x::S.filter (fun z=>decide (x.1<z.1)):=by
 obtain ⟨h1,h2⟩:=filt_split hp hn;rw [insX,h1,h2]
theorem filt_next {S:List X7} {i:Nat} (h:i<S.length) (p:X7→Bool):(S.take (i+1)).filter p=(S.take i).filter p++(if p S[i]=true then [S[i]] else []):=by
 rw [List.take_succ_eq_append_getElem h,List.filter_append]
 congr 1
 cases hp:p S[i] <;> simp [hp]
theorem insX_len (x:X7) (S:List X7):(insX x S).length=S.length+1:=by
 unfold insX;rw [List.length_append,List.length_cons,List.length_take,List.length_drop];have:=List.countP_le_length (p:=fun b:X7=>decide (b.1<x.1)) (l:=S)
 omega
theorem insX_sb {x:X7} {S:List X7} (h:Sb S) (hx:Sx1 x):Sb (insX x S):=by
 intro z hz;unfold insX at hz
 rcases List.mem_append.1 hz with hz | hz
 ·exact h z (List.mem_of_mem_take hz)
 rcases List.mem_cons.1 hz with rfl | hz
 ·exact hx
 exact h z (List.mem_of_mem_drop hz)
theorem specMakeB_any (lo hh lo' hh':Nat) (y tm:Int) (ba:Option Addr) (bn bc:Nat) (ga:Option Addr) (gn gc:Nat) (S:List X7) (G:List Int) (gid:Int) (nm:ByteArray) (w:World) (hl:S.length=bn) (hn:bn≤1048576) (hsb:Sb S) (hm:Bs lo hh w ba S) (hgl:G.length=gn) (hgn:gn≤1048576) (hs:Is lo' hh' w ga G) (hg0:ga=none→gc=0) (hnm:nm.size≤1048576)
  (ok2:Bool) (h2:(sOk y tm S G&&((!kno gid S G&&!(S.any (isN nm)))&&sOk y (tm+1) (insX (gid,nm,tm+1,y,1,[],[]) S) G))=ok2) :
  Calls Tryz.prog 150 #[.agg #[.int .i64 y,.int .i64 tm,.slice ba bn bc,.slice ga gn gc],.int .i64 gid,.string nm] w fun e w'=>∃ bv gv,e=.returned (.tuple #[.agg #[.int .i64 y,.int .i64 (pik ok2 (tm+1) tm),bv,gv],.bool ok2])∧OwT w' w.heap.size bv gv (pik ok2 (insX (gid,nm,tm+1,y,1,[],[]) S) S) (pik ok2 G G)∧Below w.heap.size w w':=by
 obtain ⟨W0,hW0⟩:∃ W0,(w.alloc (.cells #[.int .i64 y,.int .i64 tm,.slice ba bn bc,.slice ga gn gc] 27)).alloc (.cells #[.int .i64 0,.int .i64 0,.slice none 0 0,.slice none 0 0] 27)=W0:=⟨_,rfl⟩;obtain ⟨a0,r0,b0,s0⟩:=two_stores w _ _ _ _ _ _ _ _ _ _ W0 hW0;obtain ⟨p,hp⟩:∃ p,sOk y tm S G=p:=⟨_,rfl⟩;obtain ⟨q,hq⟩:∃ q,kno gid S G=q:=⟨_,rfl⟩;obtain ⟨r,hr⟩:∃ r,S.any (isN nm)=r:=⟨_,rfl⟩;obtain ⟨zn,hzn⟩:∃ zn,fidx (isN nm) S 0=zn:=⟨_,rfl⟩
 have hqz:decide (0≤zn)=r:=by rw [← hzn,fidx_any,hr]
 rw [hp,hq,hr] at h2;have HSBX:Hid (Sb (insX (gid,nm,tm+1,y,1,[],[]) S)):=insX_sb hsb ⟨hnm,by simp,(fun m hm=>by cases hm),by simp⟩;have HP:=hid hp;have HQK:=hid hq;have HZN:=hid hzn;have H2:=hid h2;have c0:=a0.cells;have A0:=hid a0;have R0:=hid r0;have B0:=hid b0;have S0:=hid s0;have HL:=hid hl;have HN:=hid hn;have HSB:=hid hsb;have HR:=hid hm;have HGL:=hid hgl;have HGN:=hid hgn;have HIS:=hid hs;have HG0:=hid hg0;clear a0 r0 b0 s0 hp hq hr hzn h2 hl hn hsb hm hgl hgn hs hg0
 go_enter Tryz.func150,Tryz.ntmps150
 go_wp2_with fail
 clear hW0;refine (specStoreOk_any lo hh lo' hh' y tm ba bn bc ga gn gc S G _ HL.out HN.out HSB.out (HR.out.later B0.out) HGL.out HGN.out (HIS.out.later B0.out)).mono ?_;rintro e w1 ⟨rfl,hb1⟩;rw [HP.out];have A1:=hid (A0.out.later hb1);have R1:=hid (R0.out.later hb1);have B1:=hid (btr B0.out hb1);clear hb1 c0 A0 R0 B0
 cases p
 case false =>
  have HE:Hid (ok2=false):=by show _=_;rw [← H2.out];rfl
  have c0:=A1.out.cells
  go_wp2_with fail
  refine (l07Copy_any lo hh lo' hh' y tm ba bn bc ga gn gc S G _ HL.out HN.out HSB.out (HR.out.later B1.out) HGL.out HGN.out (HIS.out.later B1.out) HG0.out).mono ?_;rintro e w8 ⟨bv,gv,rfl,hot,hb8⟩;obtain ⟨a8,c8,a9,c9,hv8,hv9⟩:=hot.shape;rw [HL.out] at hv8;rw [HGL.out] at hv9;subst hv8;subst hv9;have r8:=R1.out.later hb8;have q1:=r8.cells;have q2:=r8.loose;have R8:=hid r8;have O8:=hid hot;have HK8:=hid R1.out.lt;have B8:=hid (btr B1.out hb8);clear r8 hot hb8 c0
  go_wp2
  have e2:=put4_grown w8 (w.heap.size+1) y tm (.slice a8 bn c8) (.slice a9 gn c9);have d1:=(R8.out.put4 y tm (.slice a8 bn c8) (.slice a9 gn c9)).cells;unfold put4 at d1 e2;have hk8:=HK8.out;refine bodyPost_ret (v:=.tuple #[.agg #[.int .i64 y,.int .i64 tm,.slice a8 bn c8,.slice a9 gn c9],.bool false]) (by simp [results,Tryz.results150,go_sem,d1]) rfl ⟨_,_,by rw [HE.out];rfl,?_,?_⟩
  ·rw [HE.out]
   exact (O8.out.grown e2 (by omega)).base (by omega)
  have hbs:=B8.out.size;exact B8.out.trans (below_of_grown e2 (by omega) hbs)
 have c0:=A1.out.cells
 go_wp2_with fail
 refine (specKnows_any lo hh lo' hh' y tm ba bn bc ga gn gc S G gid _ HL.out HN.out HSB.out (HR.out.later B1.out) HGL.out HGN.out (HIS.out.later B1.out)).mono ?_;rintro e w2 ⟨rfl,hb2⟩;rw [HQK.out];have A2:=hid (A1.out.later hb2);have R2:=hid (R1.out.later hb2);have B2:=hid (btr B1.out hb2);clear hb2 c0 A1 R1 B1
 cases q
 case true =>
  have HE:Hid (ok2=false):=by show _=_;rw [← H2.out];rfl
  have c0:=A2.out.cells
  go_wp2_with fail
  refine (l07Copy_any lo hh lo' hh' y tm ba bn bc ga gn gc S G _ HL.out HN.out HSB.out (HR.out.later B2.out) HGL.out HGN.out (HIS.out.later B2.out) HG0.out).mono ?_;rintro e w8 ⟨bv,gv,rfl,hot,hb8⟩;obtain ⟨a8,c8,a9,c9,hv8,hv9⟩:=hot.shape;rw [HL.out] at hv8;rw [HGL.out] at hv9;subst hv8;subst hv9;have r8:=R2.out.later hb8;have q1:=r8.cells;have q2:=r8.loose;have R8:=hid r8;have O8:=hid hot;have HK8:=hid R2.out.lt;have B8:=hid (btr B2.out hb8);clear r8 hot hb8 c0
  go_wp2
  have e2:=put4_grown w8 (w.heap.size+1) y tm (.slice a8 bn c8) (.slice a9 gn c9);have d1:=(R8.out.put4 y tm (.slice a8 bn c8) (.slice a9 gn c9)).cells;unfold put4 at d1 e2;have hk8:=HK8.out;refine bodyPost_ret (v:=.tuple #[.agg #[.int .i64 y,.int .i64 tm,.slice a8 bn c8,.slice a9 gn c9],.bool false]) (by simp [results,Tryz.results150,go_sem,d1]) rfl ⟨_,_,by rw [HE.out];rfl,?_,?_⟩
  ·rw [HE.out]
   exact (O8.out.grown e2 (by omega)).base (by omega)
  have hbs:=B8.out.size;exact B8.out.trans (below_of_grown e2 (by omega) hbs)
 have c0:=A2.out.cells
 go_wp2_with fail
 refine (specBoxNamed_any lo hh y tm ba bn bc (.slice ga gn gc) S nm _ HL.out HN.out (HR.out.later B2.out)).mono ?_;rintro e w3 ⟨rfl,hb3⟩;rw [HZN.out];have A3:=hid (A2.out.later hb3);have R3:=hid (R2.out.later hb3);have B3:=hid (btr B2.out hb3);clear hb3 c0 A2 R2 B2
 cases r
 case true =>
  have hz:0≤zn:=by simpa using hqz
  have HE:Hid (ok2=false):=by show _=_;rw [← H2.out];rfl
  have c0:=A3.out.cells
  go_wp2_with fail
  refine (l07Copy_any lo hh lo' hh' y tm ba bn bc ga gn gc S G _ HL.out HN.out HSB.out (HR.out.later B3.out) HGL.out HGN.out (HIS.out.later B3.out) HG0.out).mono ?_;rintro e w8 ⟨bv,gv,rfl,hot,hb8⟩;obtain ⟨a8,c8,a9,c9,hv8,hv9⟩:=hot.shape;rw [HL.out] at hv8;rw [HGL.out] at hv9;subst hv8;subst hv9;have r8:=R3.out.later hb8;have q1:=r8.cells;have q2:=r8.loose;have R8:=hid r8;have O8:=hid hot;have HK8:=hid R3.out.lt;have B8:=hid (btr B3.out hb8);clear r8 hot hb8 c0
  go_wp2
  have e2:=put4_grown w8 (w.heap.size+1) y tm (.slice a8 bn c8) (.slice a9 gn c9);have d1:=(R8.out.put4 y tm (.slice a8 bn c8) (.slice a9 gn c9)).cells;unfold put4 at d1 e2;have hk8:=HK8.out;refine bodyPost_ret (v:=.tuple #[.agg #[.int .i64 y,.int .i64 tm,.slice a8 bn c8,.slice a9 gn c9],.bool false]) (by simp [results,Tryz.results150,go_sem,d1]) rfl ⟨_,_,by rw [HE.out];rfl,?_,?_⟩
  ·rw [HE.out]
   exact (O8.out.grown e2 (by omega)).base (by omega)
  have hbs:=B8.out.size;exact B8.out.trans (below_of_grown e2 (by omega) hbs)
 have hz:¬ 0≤zn:=by simpa using hqz
 have HE2:Hid (sOk y (tm+1) (insX (gid,nm,tm+1,y,1,[],[]) S) G=ok2):=by show _=_;rw [← H2.out];rfl
 have htm:=sOk_tm HP.out;have HSLN:Hid (S.length≤5):=(sOk_all HP.out).1
 have HINS:Hid (insX (gid,nm,tm+1,y,1,[],[]) S=S.filter (fun x=>decide (x.1<gid))++(gid,nm,tm+1,y,1,[],[])::S.filter (fun x=>decide (gid<x.1))):=insX_filt (sOk_pw HP.out) (fun z hz e=>by
   have h1:=HQK.out
   unfold kno at h1
   rw [Bool.or_eq_false_iff] at h1
   have h3:=List.any_eq_false.1 h1.1 z hz
   simp only [isG,decide_eq_true_eq] at h3
   exact h3 e)
 have c0:=A3.out.cells
 go_wp2_with fail
 refine (l07Copy_any lo hh lo' hh' y tm ba bn bc ga gn gc S G _ HL.out HN.out HSB.out (HR.out.later B3.out) HGL.out HGN.out (HIS.out.later B3.out) HG0.out).mono ?_;rintro e w4 ⟨bv1,gv1,rfl,hot,hb4⟩;obtain ⟨a8,c8,a9,c9,hv8,hv9⟩:=hot.shape;rw [HL.out] at hv8;rw [HGL.out] at hv9;subst hv8;subst hv9;obtain ⟨ko,hko⟩:∃ ko,w4.heap.size=ko:=⟨_,rfl⟩;obtain ⟨W5,hW5⟩:∃ W5,w4.alloc (.cells #[.int .i64 y,.int .i64 tm,.slice a8 bn c8,.slice a9 gn c9] 27)=W5:=⟨_,rfl⟩
 have b5:Below w4.heap.size w4 W5:=by subst hW5;exact bpush (bre _) _
 have o5:Sx W5 ko 27 y tm (.slice a8 bn c8) (.slice a9 gn c9):=by subst hW5;rw [← hko];exact Sx.new _ _ _ _ _ _
 have z5:W5.heap.size=ko+1:=by subst hW5;simp [hko]
 obtain ⟨Y0,_,_,hgi4,_⟩:=hot.own
 have HGB:Hid (∀ j,Value.ownBlock (.slice a9 gn c9)=some j→j<ko):=fun j hj=>by rw [← hko];exact (hgi4.lt j hj).2
 have hs3:W0.heap.size≤w3.heap.size:=by
  have h1:=R3.out.lt;have h2:=S0.out
  omega
 have hgi5:OwI W5 W0.heap.size (.slice a9 gn c9) G:=own_base (own_later hgi4 b5) hs3;have A5:=hid (A3.out.later (btr hb4 b5));have R5:=hid (R3.out.later (btr hb4 b5));have B5:=hid (btr B3.out (btr hb4 b5));have O5:=hid o5;have GI5:=hid hgi5
 have HKO:Hid (w.heap.size+2≤ko):=by have h1:=S0.out;have h3:=hb4.size;show _≤_;omega
 obtain ⟨W6,hW6⟩:∃ W6,(W5.alloc (.cells #[] 38)).setCell ⟨ko,2,none⟩ (.slice (some ⟨ko+1,0,none⟩) 0 0)=W6:=⟨_,rfl⟩;have b6:Below W5.heap.size W5 (W5.alloc (.cells #[] 38)):=bpush (bre _) _
 have g6:(W5.alloc (.cells #[] 38)).grownBy W6 (some ko):=by subst hW6;exact wst (wre _ _) _ _
 have ez:=(ownS_empty W5 (ko+1) (by omega)).grown g6 (by omega);rw [z5] at ez;have OZ6:=hid ez;have hko2:=HKO.out;have A6:=hid ((A5.out.later b6).off g6 (by omega));have R6:=hid ((R5.out.later b6).off g6 (by omega))
 have X6:Hid (Sx W6 ko 27 y tm (.slice (some ⟨ko+1,0,none⟩) 0 0) (.slice a9 gn c9)):=by subst hW6;exact (O5.out.later b6).s2 _
 have GI6:Hid (OwI W6 W0.heap.size (.slice a9 gn c9) G):=ow_at (own_later GI5.out b6) (fun j hj=>g6.block j ((own_later GI5.out b6).lt j hj).2 (fun e=>by have h1:=HGB.out j hj;simp only [Option.some.injEq] at e;omega));have B6:Hid (Below w.heap.size w W6):=(btr B5.out b6).trans (below_of_grown g6 (by omega) (btr B5.out b6).size)
 have hz6:W6.heap.size=ko+2:=by subst hW6;simp [z5]
 have HZ6:=hid hz6;have k5:=(O5.out.later b6).cells;have f5:=(O5.out.later b6).loose;have c6:=A6.out.cells;clear hot hb4 b5 o5 hgi4 hgi5 b6 g6 ez hs3 A5 R5 B5 O5 GI5 A3 R3 B3 c0
 go_wp2_with fail
 clear hW6 hW5;refine (specNextStamp_any y tm _ _ _ (by omega)).mono ?_;rintro e w7 ⟨rfl,hb7⟩;obtain ⟨kb,hkb⟩:∃ kb,w7.heap.size=kb:=⟨_,rfl⟩;obtain ⟨W8,hW8⟩:∃ W8,w7.alloc (.cells #[.int .i64 gid,.string nm,.int .i64 (tm+1),.int .i64 y,.int .i64 1,.slice none 0 0,.slice none 0 0] 38)=W8:=⟨_,rfl⟩
 have b8:Below w7.heap.size w7 W8:=by subst hW8;exact bpush (bre _) _
 have n8:Bx W8 kb 38 gid nm (tm+1) y 1 (.slice none 0 0) (.slice none 0 0):=by subst hW8;rw [← hkb];exact Bx.new _ _ _ _ _ _ _ _ _
 have b9:=btr hb7 b8
 have HKB:Hid (ko+1<kb):=by have h1:=hb7.size;have h2:=HZ6.out;show _<_;omega
 have N8:=hid n8;have A8:=hid (A6.out.later b9);have R8:=hid (R6.out.later b9);have X8:=hid (X6.out.later b9);have OZ8:=hid (OZ6.out.later b9);have GI8:=hid (own_later GI6.out b9);have B8:=hid (btr B6.out b9);have c8':=A8.out.cells
 have HSZ8:Hid (ko+1≤W8.heap.size):=by have h1:=X8.out.lt;show _≤_;omega
 have NV8:Hid (∀ j,Value.ownBlock (.slice (some ⟨ko+1,0,none⟩) 0 0)=some j→j≠kb):=fun j hj=>by have h1:=HKB.out;simp [Value.ownBlock] at hj;omega
 have HW8:=hid hW8;clear hb7 b8 n8 b9 A6 R6 X6 OZ6 GI6 B6 c6 c8' hW8
 go_wp2
 rw [HW8.out];clear HW8 hkb k5 f5 hko hz6 z5
 go_loopw [10] (fun iv wr=>∃ i:Nat,i≤bn∧iv=.int .i64 (i:Int)∧∃ (Y:List Y9) (vv:Value),Y.map yd=(S.take i).filter (fun x=>decide (x.1<gid))∧OwS wr (ko+1) vv Y∧(∀ j,vv.ownBlock=some j→j≠kb)∧Sx wr ko 27 y tm vv (.slice a9 gn c9)∧Sx wr w.heap.size 27 y tm (.slice ba bn bc) (.slice ga gn gc)∧Sx wr (w.heap.size+1) 27 0 0 (.slice none 0 0) (.slice none 0 0)∧Bx wr kb 38 gid nm (tm+1) y 1 (.slice none 0 0) (.slice none 0 0)∧OwI wr W0.heap.size (.slice a9 gn c9) G∧ko+1≤wr.heap.size∧Below w.heap.size w wr) (fun iv _=>bn - (intOf iv).toNat)
 case atStart=>exact ⟨0,Nat.zero_le _,rfl,[],_,rfl,OZ8.out,NV8.out,X8.out,A8.out,R8.out,N8.out,GI8.out,HSZ8.out,B8.out⟩
 case round =>
  obtain ⟨i,hin,rfl,Y,vv,hZ,hoz,hnv,hbx,hax,hrx,hkx,hgi,hsz,hb⟩:=hrel;have HZT:=hid hZ;have HOZ:=hid hoz;have HNV:=hid hnv;have AX:=hid hbx;have A6:=hid hax;have RX:=hid hrx;have HKX:=hid hkx;have HGI:=hid hgi;have HBW:=hid hsz;have HB:=hid hb
  have HWR:Hid (w.heap.size+1≤wr.heap.size):=by show _≤_;have h1:=HKO.out;omega
  have HOL:Hid (ko<wr.heap.size):=hbx.lt;have co:=hbx.cells.2.2.1;have c0:=hax.cells;clear hZ hoz hnv hbx hax hrx hkx hgi hsz hb;have hbn9:=HN.out
  by_cases hlt:i<bn
  ·have hil:i<S.length:=by rw [HL.out];exact hlt
   obtain ⟨k,o,ma1,mc1,ga1,gc1,rfl,hk,d,hms,his,_,hz1⟩:=HR.out.at hil;have hmem:=HSB.out S[i] (List.getElem_mem hil);obtain ⟨q,hq⟩:∃ q,S[i]=q:=⟨_,rfl⟩;obtain ⟨g1,nm1,t1,b1,nx1,L1,G1⟩:=q;rw [hq] at d hms his hmem;dsimp only at d hms his hmem;have HMS:=hid (hms.later HB.out);have HIS1:=hid (his.later HB.out);obtain ⟨m1,hm1⟩:∃ m1,L1.length=m1:=⟨_,rfl⟩;obtain ⟨n1,hn1⟩:∃ n1,G1.length=n1:=⟨_,rfl⟩;rw [hm1,hn1] at d;rw [hm1,hn1] at hmem;have HM1:=hid hm1;have HN1:=hid hn1;have HML:=hid hmem.2.1;have HSL:=hid hmem.2.2.1;have HNL:=hid hmem.2.2.2;have HZ1:=hid hz1;have HQ:=hid hq
   have HZL:Hid (Y.length≤1048576):=by
    show _≤_
    have h1:=congrArg List.length HZT.out;have h2:=HN.out;have h5:=HSLN.out;have h3:=List.length_filter_le (fun x=>decide (x.1<gid)) (S.take i)
    rw [List.length_map] at h1;have h4:(S.take i).length≤S.length:=by rw [List.length_take];omega
    omega
   have hI:(0:Int)≤(i:Int)∧(i:Int)<(bn:Int):=by omega
   have HSS:Hid (∀ W,Below (w.heap.size+1) wr W→(W.cell? ⟨w.heap.size,0,none⟩=some (.int .i64 y)∧W.cell? ⟨w.heap.size,1,none⟩=some (.int .i64 tm)∧W.cell? ⟨w.heap.size,2,none⟩=some (.slice (some ⟨k,o,none⟩) bn bc)∧W.cell? ⟨w.heap.size,3,none⟩=some (.slice ga gn gc))∧(W.cell? ⟨k,o+i*7,none⟩=some (.int .i64 g1)∧W.cell? ⟨k,o+i*7+1,none⟩=some (.string nm1)∧W.cell? ⟨k,o+i*7+2,none⟩=some (.int .i64 t1)∧W.cell? ⟨k,o+i*7+3,none⟩=some (.int .i64 b1)∧W.cell? ⟨k,o+i*7+4,none⟩=some (.int .i64 nx1)∧W.cell? ⟨k,o+i*7+5,none⟩=some (.slice ma1 m1 mc1)∧W.cell? ⟨k,o+i*7+6,none⟩=some (.slice ga1 n1 gc1))):=fun W h =>
    ⟨Sx.cells ((h.block w.heap.size (by omega)).trans A6.out),(d.later hk HB.out).same (h.block k (by omega))⟩
   have dd:=(d.later hk HB.out).1;clear hq hms his hmem hm1 hn1 hz1 d hk;have HLT:Hid (i+1≤bn):=hlt
   by_cases hcmp:g1<gid
   ·go_wp2_with fail
    clear c0 dd;refine wp_region_noPanic ?_;refine wp_region_held_drew (S:=(fun W=>(W.cell? ⟨w.heap.size,0,none⟩=some (.int .i64 y)∧W.cell? ⟨w.heap.size,1,none⟩=some (.int .i64 tm)∧W.cell? ⟨w.heap.size,2,none⟩=some (.slice (some ⟨k,o,none⟩) bn bc)∧W.cell? ⟨w.heap.size,3,none⟩=some (.slice ga gn gc))∧(W.cell? ⟨k,o+i*7,none⟩=some (.int .i64 g1)∧W.cell? ⟨k,o+i*7+1,none⟩=some (.string nm1)∧W.cell? ⟨k,o+i*7+2,none⟩=some (.int .i64 t1)∧W.cell? ⟨k,o+i*7+3,none⟩=some (.int .i64 b1)∧W.cell? ⟨k,o+i*7+4,none⟩=some (.int .i64 nx1)∧W.cell? ⟨k,o+i*7+5,none⟩=some (.slice ma1 m1 mc1)∧W.cell? ⟨k,o+i*7+6,none⟩=some (.slice ga1 n1 gc1)))) (by kernel_rfl) (HSS.out _ (Below.drew (Below.refl _ _))) (fun hHeld=>?_);refine tk 0 ?_;refine tk 2 ?_;refine tk 3 ?_;refine tk 4 ?_;refine tk 5 ?_;refine tk 6 ?_;clear hHeld;refine wpAnyH_ready (rs:=[1,7]) (by kernel_rfl) (by simp) ?_;refine rc (fun K hK=>?x21) ?y21
    case' x21 =>
     go_simp;refine hK.out _ _ (HSS.out _ (Below.drew (Below.refl _ _))) (fun hHeld=>?_);clear hK K;try simp only [Act.put,tq]
     clear hHeld;refine ry 7 (fun K hK=>?_);go_simp;refine (l06Copy_any _ _ _ _ g1 nm1 t1 b1 nx1 ma1 m1 mc1 ga1 n1 gc1 L1 G1 _ HM1.out HML.out HSL.out (HMS.out.later (bdr (bre _))) HN1.out HNL.out (HIS1.out.later (bdr (bre _))) HZ1.out).mono ?_;rintro e w2 ⟨mv2,gv2,rfl,how,hb2⟩;have how2:=how.owx;obtain ⟨a2,c2,d2,e2,q1,q2,_⟩:=how2.reads;rw [HM1.out] at q1;rw [HN1.out] at q2;subst q1;subst q2;have B2:=hid (show Below wr.heap.size wr w2 from btr (bdr (bre _)) hb2);have HOW:Hid (OwX w2 wr.heap.size w2.heap.size (.slice a2 m1 c2) (.slice d2 n1 e2) L1 G1):=how2;have o2:=(B2.out.cell (p:=⟨ko,2,none⟩) HOL.out).trans co;have o3:=((bpush (bre w2) (.cells #[.int .i64 g1,.string nm1,.int .i64 t1,.int .i64 b1,.int .i64 nx1,.slice a2 m1 c2,.slice d2 n1 e2] 38)).cell (p:=⟨ko,2,none⟩) (Nat.lt_of_lt_of_le HOL.out B2.out.size)).trans o2;clear hb2 how how2
     go_wp2_with fail
     refine hK.out _ _ (HSS.out _ (B2.out.mono HWR.out)) (fun hHeld=>?_);clear hK K;try simp only [Act.put,tq]
     clear hHeld;refine ry 8 (fun K hK=>?_);go_simp;refine hK.out _ _ (HSS.out _ ((B2.out.mono HWR.out).trans ((Below.refl _ _).alloc (Nat.le_trans HWR.out B2.out.size) _))) (fun hHeld=>?_);clear hK K;try simp only [Act.put,tq]
     clear hHeld;refine ry 9 (fun K hK=>?_);refine step_append_bx rfl (.tmp 53) (.tmp 60) rfl (ko+1) _ Y (by rfl) (⟨g1,nm1,t1,b1,nx1,.slice a2 m1 c2,.slice d2 n1 e2,L1,G1,wr.heap.size,w2.heap.size⟩:Y9) (HOZ.out.later B2.out) HOW.out HBW.out (fun j hj=>.inl (HOZ.out.row.lt j hj).2) (fun x hx=>.inl (HOZ.out.each x hx).1.top) (by rfl) HZL.out (Nat.le_trans HBW.out B2.out.size) ?_;intro v3 w3 hown3 hb3 hg3 hl3;obtain ⟨a3,c3,hv3⟩:=hown3.shape;simp only [List.length_append,List.length_cons,List.length_nil,Nat.zero_add] at hv3;subst hv3;have HO3:=hid hown3;have B3:=hid (show Below (ko+1) wr w3 from (B2.out.mono HBW.out).trans hb3);have x4:Sx w3 ko 27 y tm vv (.slice a9 gn c9):=(hb3.block ko (by omega)).trans (AX.out.later B2.out);have bk3:Bx w3 kb 38 gid nm (tm+1) y 1 (.slice none 0 0) (.slice none 0 0):=((HKX.out.later B2.out).later (bpush (bre w2) (.cells #[.int .i64 g1,.string nm1,.int .i64 t1,.int .i64 b1,.int .i64 nx1,.slice a2 m1 c2,.slice d2 n1 e2] 38))).grown hg3 (fun e=>HNV.out kb e.symm rfl)
     have nv3:∀ j,Value.ownBlock (.slice a3 (Y.length+1) c3)=some j→j≠kb:=fun j hj=>by
      rcases hl3 j hj with h | h
      ·exact HNV.out j h
      have h1:=HKX.out.lt;have h2:=B2.out.size;omega
     have k3:=x4.cells;have f3:=x4.loose;have X4:=hid x4;have K4:=hid bk3;have NV4:=hid nv3;clear hown3 hb3 x4 hg3 hl3 bk3 nv3;refine hK.out _ _ (HSS.out _ (B3.out.mono (by have h1:=HKO.out;omega))) (fun hHeld=>?_);clear hK K;try simp only [Act.put,tq]
     refine tk 10 ?_;clear hHeld;refine ry 11 (fun K hK=>?_);go_simp;refine hK.out _ _ (HSS.out _ (B3.out.mono (by have h1:=HKO.out;omega) |>.trans ((Below.refl _ _).setCell (p:=⟨ko,2,none⟩) (show w.heap.size+1≤ko by have h1:=HKO.out;omega) _))) (fun hHeld=>?_);clear hK K;try simp only [Act.put,tq]
     refine dn ?_
    case' y21 =>
     refine rl (fun K hK=>?_);go_simp;refine (l06Copy_any _ _ _ _ g1 nm1 t1 b1 nx1 ma1 m1 mc1 ga1 n1 gc1 L1 G1 _ HM1.out HML.out HSL.out (HMS.out.later (bdr (bre _))) HN1.out HNL.out (HIS1.out.later (bdr (bre _))) HZ1.out).mono ?_;rintro e w2 ⟨mv2,gv2,rfl,how,hb2⟩;have how2:=how.owx;obtain ⟨a2,c2,d2,e2,q1,q2,_⟩:=how2.reads;rw [HM1.out] at q1;rw [HN1.out] at q2;subst q1;subst q2;have B2:=hid (show Below wr.heap.size wr w2 from btr (bdr (bre _)) hb2);have HOW:Hid (OwX w2 wr.heap.size w2.heap.size (.slice a2 m1 c2) (.slice d2 n1 e2) L1 G1):=how2;have o2:=(B2.out.cell (p:=⟨ko,2,none⟩) HOL.out).trans co;have o3:=((bpush (bre w2) (.cells #[.int .i64 g1,.string nm1,.int .i64 t1,.int .i64 b1,.int .i64 nx1,.slice a2 m1 c2,.slice d2 n1 e2] 38)).cell (p:=⟨ko,2,none⟩) (Nat.lt_of_lt_of_le HOL.out B2.out.size)).trans o2;clear hb2 how how2
     go_wp2_with fail
     refine hK.out _ _ (HSS.out _ (B2.out.mono HWR.out)) (fun hHeld=>?_);clear hK K;try simp only [Act.put,tq]
     clear hHeld;refine wpAnyH_ready (rs:=[1,8]) (by kernel_rfl) (by simp) ?_;refine rc (fun K hK=>?x22) ?y22
     case' x22 =>
      go_simp;refine hK.out _ _ (HSS.out _ (B2.out.mono HWR.out)) (fun hHeld=>?_);clear hK K;try simp only [Act.put,tq]
      clear hHeld;refine ry 8 (fun K hK=>?_);go_simp;refine hK.out _ _ (HSS.out _ ((B2.out.mono HWR.out).trans ((Below.refl _ _).alloc (Nat.le_trans HWR.out B2.out.size) _))) (fun hHeld=>?_);clear hK K;try simp only [Act.put,tq]
      clear hHeld;refine ry 9 (fun K hK=>?_);refine step_append_bx rfl (.tmp 53) (.tmp 60) rfl (ko+1) _ Y (by rfl) (⟨g1,nm1,t1,b1,nx1,.slice a2 m1 c2,.slice d2 n1 e2,L1,G1,wr.heap.size,w2.heap.size⟩:Y9) (HOZ.out.later B2.out) HOW.out HBW.out (fun j hj=>.inl (HOZ.out.row.lt j hj).2) (fun x hx=>.inl (HOZ.out.each x hx).1.top) (by rfl) HZL.out (Nat.le_trans HBW.out B2.out.size) ?_;intro v3 w3 hown3 hb3 hg3 hl3;obtain ⟨a3,c3,hv3⟩:=hown3.shape;simp only [List.length_append,List.length_cons,List.length_nil,Nat.zero_add] at hv3;subst hv3;have HO3:=hid hown3;have B3:=hid (show Below (ko+1) wr w3 from (B2.out.mono HBW.out).trans hb3);have x4:Sx w3 ko 27 y tm vv (.slice a9 gn c9):=(hb3.block ko (by omega)).trans (AX.out.later B2.out);have bk3:Bx w3 kb 38 gid nm (tm+1) y 1 (.slice none 0 0) (.slice none 0 0):=((HKX.out.later B2.out).later (bpush (bre w2) (.cells #[.int .i64 g1,.string nm1,.int .i64 t1,.int .i64 b1,.int .i64 nx1,.slice a2 m1 c2,.slice d2 n1 e2] 38))).grown hg3 (fun e=>HNV.out kb e.symm rfl)
      have nv3:∀ j,Value.ownBlock (.slice a3 (Y.length+1) c3)=some j→j≠kb:=fun j hj=>by
       rcases hl3 j hj with h | h
       ·exact HNV.out j h
       have h1:=HKX.out.lt;have h2:=B2.out.size;omega
      have k3:=x4.cells;have f3:=x4.loose;have X4:=hid x4;have K4:=hid bk3;have NV4:=hid nv3;clear hown3 hb3 x4 hg3 hl3 bk3 nv3;refine hK.out _ _ (HSS.out _ (B3.out.mono (by have h1:=HKO.out;omega))) (fun hHeld=>?_);clear hK K;try simp only [Act.put,tq]
      refine tk 10 ?_;clear hHeld;refine ry 11 (fun K hK=>?_);go_simp;refine hK.out _ _ (HSS.out _ (B3.out.mono (by have h1:=HKO.out;omega) |>.trans ((Below.refl _ _).setCell (p:=⟨ko,2,none⟩) (show w.heap.size+1≤ko by have h1:=HKO.out;omega) _))) (fun hHeld=>?_);clear hK K;try simp only [Act.put,tq]
      refine dn ?_
     case' y22 =>
      refine rl (fun K hK=>?_);go_simp;refine hK.out _ _ (HSS.out _ ((B2.out.mono HWR.out).trans ((Below.refl _ _).alloc (Nat.le_trans HWR.out B2.out.size) _))) (fun hHeld=>?_);clear hK K;try simp only [Act.put,tq]
      clear hHeld;refine ry 1 (fun K hK=>?_);go_simp;refine hK.out _ _ (HSS.out _ ((B2.out.mono HWR.out).trans ((Below.refl _ _).alloc (Nat.le_trans HWR.out B2.out.size) _))) (fun hHeld=>?_);clear hK K;try simp only [Act.put,tq]
      clear hHeld;refine ry 9 (fun K hK=>?_);refine step_append_bx rfl (.tmp 53) (.tmp 60) rfl (ko+1) _ Y (by rfl) (⟨g1,nm1,t1,b1,nx1,.slice a2 m1 c2,.slice d2 n1 e2,L1,G1,wr.heap.size,w2.heap.size⟩:Y9) (HOZ.out.later B2.out) HOW.out HBW.out (fun j hj=>.inl (HOZ.out.row.lt j hj).2) (fun x hx=>.inl (HOZ.out.each x hx).1.top) (by rfl) HZL.out (Nat.le_trans HBW.out B2.out.size) ?_;intro v3 w3 hown3 hb3 hg3 hl3;obtain ⟨a3,c3,hv3⟩:=hown3.shape;simp only [List.length_append,List.length_cons,List.length_nil,Nat.zero_add] at hv3;subst hv3;have HO3:=hid hown3;have B3:=hid (show Below (ko+1) wr w3 from (B2.out.mono HBW.out).trans hb3);have x4:Sx w3 ko 27 y tm vv (.slice a9 gn c9):=(hb3.block ko (by omega)).trans (AX.out.later B2.out);have bk3:Bx w3 kb 38 gid nm (tm+1) y 1 (.slice none 0 0) (.slice none 0 0):=((HKX.out.later B2.out).later (bpush (bre w2) (.cells #[.int .i64 g1,.string nm1,.int .i64 t1,.int .i64 b1,.int .i64 nx1,.slice a2 m1 c2,.slice d2 n1 e2] 38))).grown hg3 (fun e=>HNV.out kb e.symm rfl)
      have nv3:∀ j,Value.ownBlock (.slice a3 (Y.length+1) c3)=some j→j≠kb:=fun j hj=>by
       rcases hl3 j hj with h | h
       ·exact HNV.out j h
       have h1:=HKX.out.lt;have h2:=B2.out.size;omega
      have k3:=x4.cells;have f3:=x4.loose;have X4:=hid x4;have K4:=hid bk3;have NV4:=hid nv3;clear hown3 hb3 x4 hg3 hl3 bk3 nv3;refine hK.out _ _ (HSS.out _ (B3.out.mono (by have h1:=HKO.out;omega))) (fun hHeld=>?_);clear hK K;try simp only [Act.put,tq]
      refine tk 10 ?_;clear hHeld;refine ry 11 (fun K hK=>?_);go_simp;refine hK.out _ _ (HSS.out _ (B3.out.mono (by have h1:=HKO.out;omega) |>.trans ((Below.refl _ _).setCell (p:=⟨ko,2,none⟩) (show w.heap.size+1≤ko by have h1:=HKO.out;omega) _))) (fun hHeld=>?_);clear hK K;try simp only [Act.put,tq]
      refine dn ?_
    all_goals
     have X5:=hid (X4.out.s2 (Value.slice a3 (Y.length+1) c3));have G5:w3.grownBy (w3.setCell ⟨ko,2,none⟩ (Value.slice a3 (Y.length+1) c3)) (some ko):=wst (wre _ _) _ _;have hko:=HKO.out;have hkb:=HKB.out;have O5:=hid (HO3.out.grown G5 (by omega));have A5:=hid (Sx.off ((B3.out.block w.heap.size (by omega)).trans A6.out:Sx w3 w.heap.size 27 y tm (.slice (some ⟨k,o,none⟩) bn bc) (.slice ga gn gc)) G5 (by omega));have R5:=hid (Sx.off ((B3.out.block (w.heap.size+1) (by omega)).trans RX.out:Sx w3 (w.heap.size+1) 27 0 0 (.slice none 0 0) (.slice none 0 0)) G5 (by omega));have K5:=hid (K4.out.grown G5 (fun e=>by simp only [Option.some.injEq] at e;omega))
     have I5:Hid (OwI (w3.setCell ⟨ko,2,none⟩ (Value.slice a3 (Y.length+1) c3)) W0.heap.size (.slice a9 gn c9) G):=ow_at HGI.out (fun j hj=>by
       have h1:=HGB.out j hj
       exact (G5.block j (Nat.lt_of_lt_of_le (Nat.lt_of_lt_of_le h1 (Nat.le_of_lt AX.out.lt)) B3.out.size) (fun e=>by simp only [Option.some.injEq] at e;omega)).trans (B3.out.block j (by omega)))
     have B5:Hid (Below w.heap.size w (w3.setCell ⟨ko,2,none⟩ (Value.slice a3 (Y.length+1) c3))):=(HB.out.trans (B3.out.mono (by omega))).trans (below_of_grown G5 (by omega) (by have h1:=HB.out.size;have h2:=B3.out.size;omega))
     have S5:Hid (ko+1≤(w3.setCell ⟨ko,2,none⟩ (Value.slice a3 (Y.length+1) c3)).heap.size):=by show _≤_;have h1:=HBW.out;have h2:=B3.out.size;have h3:=G5.size;omega
     obtain ⟨W5,hW5⟩:∃ W5,w3.setCell ⟨ko,2,none⟩ (Value.slice a3 (Y.length+1) c3)=W5:=⟨_,rfl⟩;rw [hW5] at X5 O5 A5 R5 K5 I5 B5 S5;simp only [hW5];clear hHeld G5 k3 f3 hW5 co o2 o3 hko hkb
     have HE:Hid ((Y++[(⟨g1,nm1,t1,b1,nx1,.slice a2 m1 c2,.slice d2 n1 e2,L1,G1,wr.heap.size,w2.heap.size⟩:Y9)]).map yd=(S.take (i+1)).filter (fun x=>decide (x.1<gid))):=by show _=_;rw [List.map_append,HZT.out,filt_next hil,HQ.out,if_pos (decide_eq_true hcmp)];simp [yd]
     go_wp2
     go_roundw
     case rel=>exact ⟨i+1,HLT.out,by go_num,_,_,HE.out,O5.out,NV4.out,X5.out,A5.out,R5.out,K5.out,I5.out,S5.out,B5.out⟩
     case measure=>have hlt9:=HLT.out;simp [intOf];omega
   have HE:Hid (Y.map yd=(S.take (i+1)).filter (fun x=>decide (x.1<gid))):=by show _=_;rw [HZT.out,filt_next hil,HQ.out,if_neg (by simpa using hcmp)];simp
   go_wp2
   go_roundw
   case rel=>exact ⟨i+1,HLT.out,by go_num,_,_,HE.out,HOZ.out,HNV.out,AX.out,A6.out,RX.out,HKX.out,HGI.out,HBW.out,HB.out⟩
   case measure=>have hlt9:=HLT.out;simp [intOf];omega
  have HE:Hid (Y.map yd=S.filter (fun x=>decide (x.1<gid))):=by show _=_;rw [HZT.out,List.take_of_length_le (by rw [HL.out];omega)]
  have hko:=HKO.out;have hkb:=HKB.out;have kx:=HKX.out.cells
  have HZL:Hid (Y.length≤1048576):=by
   show _≤_
   have h1:=congrArg List.length HE.out;have h5:=HSLN.out;have h3:=List.length_filter_le (fun x=>decide (x.1<gid)) S;rw [List.length_map] at h1
   omega
  have x0:=(AX.out.later (bpush (bre wr) (.cells #[.int .i64 gid,.string nm,.int .i64 (tm+1),.int .i64 y,.int .i64 1,.slice none 0 0,.slice none 0 0] 38))).cells
  go_wp2_with (at_builtin;refine wpList_append_bx rfl (.tmp 64) (.tmp 66) rfl (ko+1) _ Y (by rfl) (⟨gid,nm,tm+1,y,1,.slice none 0 0,.slice none 0 0,[],[],wr.heap.size,wr.heap.size⟩:Y9) HOZ.out (owx_nils wr) HBW.out (fun j hj=>.inl (HOZ.out.row.lt j hj).2) (fun x hx=>.inl (HOZ.out.each x hx).1.top) (by rfl) HZL.out HBW.out ?_;intro v3 w3 hown3 hb3 hg3 hl3;obtain ⟨a3,c3,hv3⟩:=hown3.shape;simp only [List.length_append,List.length_cons,List.length_nil,Nat.zero_add] at hv3;subst hv3;have x4:Sx w3 ko 27 y tm vv (.slice a9 gn c9):=(hb3.block ko (by omega)).trans AX.out;have bk3:Bx w3 kb 38 gid nm (tm+1) y 1 (.slice none 0 0) (.slice none 0 0):=(HKX.out.later (bpush (bre wr) _)).grown hg3 (fun e=>HNV.out kb e.symm rfl);have k3:=x4.cells;have f3:=x4.loose)
  obtain ⟨W10,hW10⟩:∃ W10,w3.setCell ⟨ko,2,none⟩ (Value.slice a3 (Y.length+1) c3)=W10:=⟨_,rfl⟩;rw [hW10]
  have G10:w3.grownBy W10 (some ko):=by subst hW10;exact wst (wre _ _) _ _
  have B3:Below (ko+1) wr w3:=hb3;have O10:=hid (hown3.grown G10 (by omega))
  have X10:Hid (Sx W10 ko 27 y tm (Value.slice a3 (Y.length+1) c3) (.slice a9 gn c9)):=by subst hW10;exact x4.s2 _
  have A10:=hid (Sx.off ((B3.block w.heap.size (by omega)).trans A6.out:Sx w3 w.heap.size 27 y tm (.slice ba bn bc) (.slice ga gn gc)) G10 (by omega));have R10:=hid (Sx.off ((B3.block (w.heap.size+1) (by omega)).trans RX.out:Sx w3 (w.heap.size+1) 27 0 0 (.slice none 0 0) (.slice none 0 0)) G10 (by omega));have K10:=hid (bk3.grown G10 (fun e=>by simp only [Option.some.injEq] at e;omega))
  have I10:Hid (OwI W10 W0.heap.size (.slice a9 gn c9) G):=ow_at HGI.out (fun j hj=>by
    have h1:=HGB.out j hj
    exact (G10.block j (Nat.lt_of_lt_of_le (Nat.lt_of_lt_of_le h1 (Nat.le_of_lt AX.out.lt)) B3.size) (fun e=>by simp only [Option.some.injEq] at e;omega)).trans (B3.block j (by omega)))
  have B10:Hid (Below w.heap.size w W10):=(HB.out.trans (B3.mono (by omega))).trans (below_of_grown G10 (by omega) (by have h1:=HB.out.size;have h2:=B3.size;omega))
  have S10:Hid (ko+1≤W10.heap.size):=by show _≤_;have h1:=HBW.out;have h2:=B3.size;have h3:=G10.size;omega
  have NV10:Hid (∀ j,Value.ownBlock (Value.slice a3 (Y.length+1) c3)=some j→j≠kb):=fun j hj=>by
   rcases hl3 j hj with h | h
   ·exact HNV.out j h
   have h1:=HKX.out.lt;omega
  have HE3:Hid ((Y++[(⟨gid,nm,tm+1,y,1,.slice none 0 0,.slice none 0 0,[],[],wr.heap.size,wr.heap.size⟩:Y9)]).map yd=(S.filter (fun x=>decide (x.1<gid))++[(gid,nm,tm+1,y,1,[],[])])++(S.take 0).filter (fun x=>decide (gid<x.1))):=by show _=_;rw [List.map_append,HE.out];simp [yd]
  clear hW10 G10 B3 hown3 hb3 hg3 hl3 x4 bk3 k3 f3 kx x0 co c0 AX A6 RX HKX HGI HBW HB HOZ HNV HZT HE HZL HWR HOL hko hkb
  go_loopw [11] (fun iv wr=>∃ i:Nat,i≤bn∧iv=.int .i64 (i:Int)∧∃ (Y:List Y9) (vv:Value),Y.map yd=(S.filter (fun x=>decide (x.1<gid))++[(gid,nm,tm+1,y,1,[],[])])++(S.take i).filter (fun x=>decide (gid<x.1))∧OwS wr (ko+1) vv Y∧(∀ j,vv.ownBlock=some j→j≠kb)∧Sx wr ko 27 y tm vv (.slice a9 gn c9)∧Sx wr w.heap.size 27 y tm (.slice ba bn bc) (.slice ga gn gc)∧Sx wr (w.heap.size+1) 27 0 0 (.slice none 0 0) (.slice none 0 0)∧Bx wr kb 38 gid nm (tm+1) y 1 (.slice none 0 0) (.slice none 0 0)∧OwI wr W0.heap.size (.slice a9 gn c9) G∧ko+1≤wr.heap.size∧Below w.heap.size w wr) (fun iv _=>bn - (intOf iv).toNat)
  case atStart=>exact ⟨0,Nat.zero_le _,rfl,_,_,HE3.out,O10.out,NV10.out,X10.out,A10.out,R10.out,K10.out,I10.out,S10.out,B10.out⟩
  case round =>
   obtain ⟨i,hin,rfl,Y,vv,hZ,hoz,hnv,hbx,hax,hrx,hkx,hgi,hsz,hb⟩:=hrel;have HZT:=hid hZ;have HOZ:=hid hoz;have HNV:=hid hnv;have AX:=hid hbx;have A6:=hid hax;have RX:=hid hrx;have HKX:=hid hkx;have HGI:=hid hgi;have HBW:=hid hsz;have HB:=hid hb
   have HWR:Hid (w.heap.size+1≤wr.heap.size):=by show _≤_;have h1:=HKO.out;omega
   have HOL:Hid (ko<wr.heap.size):=hbx.lt;have co:=hbx.cells.2.2.1;have c0:=hax.cells;clear hZ hoz hnv hbx hax hrx hkx hgi hsz hb;have hbn9:=HN.out
   by_cases hlt:i<bn
   ·have hil:i<S.length:=by rw [HL.out];exact hlt
    obtain ⟨k,o,ma1,mc1,ga1,gc1,rfl,hk,d,hms,his,_,hz1⟩:=HR.out.at hil;have hmem:=HSB.out S[i] (List.getElem_mem hil);obtain ⟨q,hq⟩:∃ q,S[i]=q:=⟨_,rfl⟩;obtain ⟨g1,nm1,t1,b1,nx1,L1,G1⟩:=q;rw [hq] at d hms his hmem;dsimp only at d hms his hmem;have HMS:=hid (hms.later HB.out);have HIS1:=hid (his.later HB.out);obtain ⟨m1,hm1⟩:∃ m1,L1.length=m1:=⟨_,rfl⟩;obtain ⟨n1,hn1⟩:∃ n1,G1.length=n1:=⟨_,rfl⟩;rw [hm1,hn1] at d;rw [hm1,hn1] at hmem;have HM1:=hid hm1;have HN1:=hid hn1;have HML:=hid hmem.2.1;have HSL:=hid hmem.2.2.1;have HNL:=hid hmem.2.2.2;have HZ1:=hid hz1;have HQ:=hid hq
    have HZL:Hid (Y.length≤1048576):=by
     show _≤_
     have h1:=congrArg List.length HZT.out;have h2:=HN.out;have h5:=HSLN.out;have h3:=List.length_filter_le (fun x=>decide (gid<x.1)) (S.take i)
     rw [List.length_map,List.length_append,List.length_append] at h1;have h4:(S.take i).length≤S.length:=by rw [List.length_take];omega
     have h6:=List.length_filter_le (fun x=>decide (x.1<gid)) S;simp only [List.length_cons,List.length_nil] at h1
     omega
    have hI:(0:Int)≤(i:Int)∧(i:Int)<(bn:Int):=by omega
    have HSS:Hid (∀ W,Below (w.heap.size+1) wr W→(W.cell? ⟨w.heap.size,0,none⟩=some (.int .i64 y)∧W.cell? ⟨w.heap.size,1,none⟩=some (.int .i64 tm)∧W.cell? ⟨w.heap.size,2,none⟩=some (.slice (some ⟨k,o,none⟩) bn bc)∧W.cell? ⟨w.heap.size,3,none⟩=some (.slice ga gn gc))∧(W.cell? ⟨k,o+i*7,none⟩=some (.int .i64 g1)∧W.cell? ⟨k,o+i*7+1,none⟩=some (.string nm1)∧W.cell? ⟨k,o+i*7+2,none⟩=some (.int .i64 t1)∧W.cell? ⟨k,o+i*7+3,none⟩=some (.int .i64 b1)∧W.cell? ⟨k,o+i*7+4,none⟩=some (.int .i64 nx1)∧W.cell? ⟨k,o+i*7+5,none⟩=some (.slice ma1 m1 mc1)∧W.cell? ⟨k,o+i*7+6,none⟩=some (.slice ga1 n1 gc1))):=fun W h =>
     ⟨Sx.cells ((h.block w.heap.size (by omega)).trans A6.out),(d.later hk HB.out).same (h.block k (by omega))⟩
    have dd:=(d.later hk HB.out).1;clear hq hms his hmem hm1 hn1 hz1 d hk;have HLT:Hid (i+1≤bn):=hlt
    by_cases hcmp:gid<g1
    ·go_wp2_with fail
     clear c0 dd;refine wp_region_noPanic ?_;refine wp_region_held_drew (S:=(fun W=>(W.cell? ⟨w.heap.size,0,none⟩=some (.int .i64 y)∧W.cell? ⟨w.heap.size,1,none⟩=some (.int .i64 tm)∧W.cell? ⟨w.heap.size,2,none⟩=some (.slice (some ⟨k,o,none⟩) bn bc)∧W.cell? ⟨w.heap.size,3,none⟩=some (.slice ga gn gc))∧(W.cell? ⟨k,o+i*7,none⟩=some (.int .i64 g1)∧W.cell? ⟨k,o+i*7+1,none⟩=some (.string nm1)∧W.cell? ⟨k,o+i*7+2,none⟩=some (.int .i64 t1)∧W.cell? ⟨k,o+i*7+3,none⟩=some (.int .i64 b1)∧W.cell? ⟨k,o+i*7+4,none⟩=some (.int .i64 nx1)∧W.cell? ⟨k,o+i*7+5,none⟩=some (.slice ma1 m1 mc1)∧W.cell? ⟨k,o+i*7+6,none⟩=some (.slice ga1 n1 gc1)))) (by kernel_rfl) (HSS.out _ (Below.drew (Below.refl _ _))) (fun hHeld=>?_);refine tk 0 ?_;refine tk 2 ?_;refine tk 3 ?_;refine tk 4 ?_;refine tk 5 ?_;refine tk 6 ?_;clear hHeld;refine wpAnyH_ready (rs:=[1,7]) (by kernel_rfl) (by simp) ?_;refine rc (fun K hK=>?x23) ?y23
     case' x23 =>
      go_simp;refine hK.out _ _ (HSS.out _ (Below.drew (Below.refl _ _))) (fun hHeld=>?_);clear hK K;try simp only [Act.put,tq]
      clear hHeld;refine ry 7 (fun K hK=>?_);go_simp;refine (l06Copy_any _ _ _ _ g1 nm1 t1 b1 nx1 ma1 m1 mc1 ga1 n1 gc1 L1 G1 _ HM1.out HML.out HSL.out (HMS.out.later (bdr (bre _))) HN1.out HNL.out (HIS1.out.later (bdr (bre _))) HZ1.out).mono ?_;rintro e w2 ⟨mv2,gv2,rfl,how,hb2⟩;have how2:=how.owx;obtain ⟨a2,c2,d2,e2,q1,q2,_⟩:=how2.reads;rw [HM1.out] at q1;rw [HN1.out] at q2;subst q1;subst q2;have B2:=hid (show Below wr.heap.size wr w2 from btr (bdr (bre _)) hb2);have HOW:Hid (OwX w2 wr.heap.size w2.heap.size (.slice a2 m1 c2) (.slice d2 n1 e2) L1 G1):=how2;have o2:=(B2.out.cell (p:=⟨ko,2,none⟩) HOL.out).trans co;have o3:=((bpush (bre w2) (.cells #[.int .i64 g1,.string nm1,.int .i64 t1,.int .i64 b1,.int .i64 nx1,.slice a2 m1 c2,.slice d2 n1 e2] 38)).cell (p:=⟨ko,2,none⟩) (Nat.lt_of_lt_of_le HOL.out B2.out.size)).trans o2;clear hb2 how how2
      go_wp2_with fail
      refine hK.out _ _ (HSS.out _ (B2.out.mono HWR.out)) (fun hHeld=>?_);clear hK K;try simp only [Act.put,tq]
      clear hHeld;refine ry 8 (fun K hK=>?_);go_simp;refine hK.out _ _ (HSS.out _ ((B2.out.mono HWR.out).trans ((Below.refl _ _).alloc (Nat.le_trans HWR.out B2.out.size) _))) (fun hHeld=>?_);clear hK K;try simp only [Act.put,tq]
      clear hHeld;refine ry 9 (fun K hK=>?_);refine step_append_bx rfl (.tmp 85) (.tmp 92) rfl (ko+1) _ Y (by rfl) (⟨g1,nm1,t1,b1,nx1,.slice a2 m1 c2,.slice d2 n1 e2,L1,G1,wr.heap.size,w2.heap.size⟩:Y9) (HOZ.out.later B2.out) HOW.out HBW.out (fun j hj=>.inl (HOZ.out.row.lt j hj).2) (fun x hx=>.inl (HOZ.out.each x hx).1.top) (by rfl) HZL.out (Nat.le_trans HBW.out B2.out.size) ?_;intro v3 w3 hown3 hb3 hg3 hl3;obtain ⟨a3,c3,hv3⟩:=hown3.shape;simp only [List.length_append,List.length_cons,List.length_nil,Nat.zero_add] at hv3;subst hv3;have HO3:=hid hown3;have B3:=hid (show Below (ko+1) wr w3 from (B2.out.mono HBW.out).trans hb3);have x4:Sx w3 ko 27 y tm vv (.slice a9 gn c9):=(hb3.block ko (by omega)).trans (AX.out.later B2.out);have bk3:Bx w3 kb 38 gid nm (tm+1) y 1 (.slice none 0 0) (.slice none 0 0):=((HKX.out.later B2.out).later (bpush (bre w2) (.cells #[.int .i64 g1,.string nm1,.int .i64 t1,.int .i64 b1,.int .i64 nx1,.slice a2 m1 c2,.slice d2 n1 e2] 38))).grown hg3 (fun e=>HNV.out kb e.symm rfl)
      have nv3:∀ j,Value.ownBlock (.slice a3 (Y.length+1) c3)=some j→j≠kb:=fun j hj=>by
       rcases hl3 j hj with h | h
       ·exact HNV.out j h
       have h1:=HKX.out.lt;have h2:=B2.out.size;omega
      have k3:=x4.cells;have f3:=x4.loose;have X4:=hid x4;have K4:=hid bk3;have NV4:=hid nv3;clear hown3 hb3 x4 hg3 hl3 bk3 nv3;refine hK.out _ _ (HSS.out _ (B3.out.mono (by have h1:=HKO.out;omega))) (fun hHeld=>?_);clear hK K;try simp only [Act.put,tq]
      refine tk 10 ?_;clear hHeld;refine ry 11 (fun K hK=>?_);go_simp;refine hK.out _ _ (HSS.out _ (B3.out.mono (by have h1:=HKO.out;omega) |>.trans ((Below.refl _ _).setCell (p:=⟨ko,2,none⟩) (show w.heap.size+1≤ko by have h1:=HKO.out;omega) _))) (fun hHeld=>?_);clear hK K;try simp only [Act.put,tq]
      refine dn ?_
     case' y23 =>
      refine rl (fun K hK=>?_);go_simp;refine (l06Copy_any _ _ _ _ g1 nm1 t1 b1 nx1 ma1 m1 mc1 ga1 n1 gc1 L1 G1 _ HM1.out HML.out HSL.out (HMS.out.later (bdr (bre _))) HN1.out HNL.out (HIS1.out.later (bdr (bre _))) HZ1.out).mono ?_;rintro e w2 ⟨mv2,gv2,rfl,how,hb2⟩;have how2:=how.owx;obtain ⟨a2,c2,d2,e2,q1,q2,_⟩:=how2.reads;rw [HM1.out] at q1;rw [HN1.out] at q2;subst q1;subst q2;have B2:=hid (show Below wr.heap.size wr w2 from btr (bdr (bre _)) hb2);have HOW:Hid (OwX w2 wr.heap.size w2.heap.size (.slice a2 m1 c2) (.slice d2 n1 e2) L1 G1):=how2;have o2:=(B2.out.cell (p:=⟨ko,2,none⟩) HOL.out).trans co;have o3:=((bpush (bre w2) (.cells #[.int .i64 g1,.string nm1,.int .i64 t1,.int .i64 b1,.int .i64 nx1,.slice a2 m1 c2,.slice d2 n1 e2] 38)).cell (p:=⟨ko,2,none⟩) (Nat.lt_of_lt_of_le HOL.out B2.out.size)).trans o2;clear hb2 how how2
      go_wp2_with fail
      refine hK.out _ _ (HSS.out _ (B2.out.mono HWR.out)) (fun hHeld=>?_);clear hK K;try simp only [Act.put,tq]
      clear hHeld;refine wpAnyH_ready (rs:=[1,8]) (by kernel_rfl) (by simp) ?_;refine rc (fun K hK=>?x24) ?y24
      case' x24 =>
       go_simp;refine hK.out _ _ (HSS.out _ (B2.out.mono HWR.out)) (fun hHeld=>?_);clear hK K;try simp only [Act.put,tq]
       clear hHeld;refine ry 8 (fun K hK=>?_);go_simp;refine hK.out _ _ (HSS.out _ ((B2.out.mono HWR.out).trans ((Below.refl _ _).alloc (Nat.le_trans HWR.out B2.out.size) _))) (fun hHeld=>?_);clear hK K;try simp only [Act.put,tq]
       clear hHeld;refine ry 9 (fun K hK=>?_);refine step_append_bx rfl (.tmp 85) (.tmp 92) rfl (ko+1) _ Y (by rfl) (⟨g1,nm1,t1,b1,nx1,.slice a2 m1 c2,.slice d2 n1 e2,L1,G1,wr.heap.size,w2.heap.size⟩:Y9) (HOZ.out.later B2.out) HOW.out HBW.out (fun j hj=>.inl (HOZ.out.row.lt j hj).2) (fun x hx=>.inl (HOZ.out.each x hx).1.top) (by rfl) HZL.out (Nat.le_trans HBW.out B2.out.size) ?_;intro v3 w3 hown3 hb3 hg3 hl3;obtain ⟨a3,c3,hv3⟩:=hown3.shape;simp only [List.length_append,List.length_cons,List.length_nil,Nat.zero_add] at hv3;subst hv3;have HO3:=hid hown3;have B3:=hid (show Below (ko+1) wr w3 from (B2.out.mono HBW.out).trans hb3);have x4:Sx w3 ko 27 y tm vv (.slice a9 gn c9):=(hb3.block ko (by omega)).trans (AX.out.later B2.out);have bk3:Bx w3 kb 38 gid nm (tm+1) y 1 (.slice none 0 0) (.slice none 0 0):=((HKX.out.later B2.out).later (bpush (bre w2) (.cells #[.int .i64 g1,.string nm1,.int .i64 t1,.int .i64 b1,.int .i64 nx1,.slice a2 m1 c2,.slice d2 n1 e2] 38))).grown hg3 (fun e=>HNV.out kb e.symm rfl)
       have nv3:∀ j,Value.ownBlock (.slice a3 (Y.length+1) c3)=some j→j≠kb:=fun j hj=>by
        rcases hl3 j hj with h | h
        ·exact HNV.out j h
        have h1:=HKX.out.lt;have h2:=B2.out.size;omega
       have k3:=x4.cells;have f3:=x4.loose;have X4:=hid x4;have K4:=hid bk3;have NV4:=hid nv3;clear hown3 hb3 x4 hg3 hl3 bk3 nv3;refine hK.out _ _ (HSS.out _ (B3.out.mono (by have h1:=HKO.out;omega))) (fun hHeld=>?_);clear hK K;try simp only [Act.put,tq]
       refine tk 10 ?_;clear hHeld;refine ry 11 (fun K hK=>?_);go_simp;refine hK.out _ _ (HSS.out _ (B3.out.mono (by have h1:=HKO.out;omega) |>.trans ((Below.refl _ _).setCell (p:=⟨ko,2,none⟩) (show w.heap.size+1≤ko by have h1:=HKO.out;omega) _))) (fun hHeld=>?_);clear hK K;try simp only [Act.put,tq]
       refine dn ?_
      case' y24 =>
       refine rl (fun K hK=>?_);go_simp;refine hK.out _ _ (HSS.out _ ((B2.out.mono HWR.out).trans ((Below.refl _ _).alloc (Nat.le_trans HWR.out B2.out.size) _))) (fun hHeld=>?_);clear hK K;try simp only [Act.put,tq]
       clear hHeld;refine ry 1 (fun K hK=>?_);go_simp;refine hK.out _ _ (HSS.out _ ((B2.out.mono HWR.out).trans ((Below.refl _ _).alloc (Nat.le_trans HWR.out B2.out.size) _))) (fun hHeld=>?_);clear hK K;try simp only [Act.put,tq]
       clear hHeld;refine ry 9 (fun K hK=>?_);refine step_append_bx rfl (.tmp 85) (.tmp 92) rfl (ko+1) _ Y (by rfl) (⟨g1,nm1,t1,b1,nx1,.slice a2 m1 c2,.slice d2 n1 e2,L1,G1,wr.heap.size,w2.heap.size⟩:Y9) (HOZ.out.later B2.out) HOW.out HBW.out (fun j hj=>.inl (HOZ.out.row.lt j hj).2) (fun x hx=>.inl (HOZ.out.each x hx).1.top) (by rfl) HZL.out (Nat.le_trans HBW.out B2.out.size) ?_;intro v3 w3 hown3 hb3 hg3 hl3;obtain ⟨a3,c3,hv3⟩:=hown3.shape;simp only [List.length_append,List.length_cons,List.length_nil,Nat.zero_add] at hv3;subst hv3;have HO3:=hid hown3;have B3:=hid (show Below (ko+1) wr w3 from (B2.out.mono HBW.out).trans hb3);have x4:Sx w3 ko 27 y tm vv (.slice a9 gn c9):=(hb3.block ko (by omega)).trans (AX.out.later B2.out);have bk3:Bx w3 kb 38 gid nm (tm+1) y 1 (.slice none 0 0) (.slice none 0 0):=((HKX.out.later B2.out).later (bpush (bre w2) (.cells #[.int .i64 g1,.string nm1,.int .i64 t1,.int .i64 b1,.int .i64 nx1,.slice a2 m1 c2,.slice d2 n1 e2] 38))).grown hg3 (fun e=>HNV.out kb e.symm rfl)
       have nv3:∀ j,Value.ownBlock (.slice a3 (Y.length+1) c3)=some j→j≠kb:=fun j hj=>by
        rcases hl3 j hj with h | h
        ·exact HNV.out j h
        have h1:=HKX.out.lt;have h2:=B2.out.size;omega
       have k3:=x4.cells;have f3:=x4.loose;have X4:=hid x4;have K4:=hid bk3;have NV4:=hid nv3;clear hown3 hb3 x4 hg3 hl3 bk3 nv3;refine hK.out _ _ (HSS.out _ (B3.out.mono (by have h1:=HKO.out;omega))) (fun hHeld=>?_);clear hK K;try simp only [Act.put,tq]
       refine tk 10 ?_;clear hHeld;refine ry 11 (fun K hK=>?_);go_simp;refine hK.out _ _ (HSS.out _ (B3.out.mono (by have h1:=HKO.out;omega) |>.trans ((Below.refl _ _).setCell (p:=⟨ko,2,none⟩) (show w.heap.size+1≤ko by have h1:=HKO.out;omega) _))) (fun hHeld=>?_);clear hK K;try simp only [Act.put,tq]
       refine dn ?_
     all_goals
      have X5:=hid (X4.out.s2 (Value.slice a3 (Y.length+1) c3));have G5:w3.grownBy (w3.setCell ⟨ko,2,none⟩ (Value.slice a3 (Y.length+1) c3)) (some ko):=wst (wre _ _) _ _;have hko:=HKO.out;have hkb:=HKB.out;have O5:=hid (HO3.out.grown G5 (by omega));have A5:=hid (Sx.off ((B3.out.block w.heap.size (by omega)).trans A6.out:Sx w3 w.heap.size 27 y tm (.slice (some ⟨k,o,none⟩) bn bc) (.slice ga gn gc)) G5 (by omega));have R5:=hid (Sx.off ((B3.out.block (w.heap.size+1) (by omega)).trans RX.out:Sx w3 (w.heap.size+1) 27 0 0 (.slice none 0 0) (.slice none 0 0)) G5 (by omega));have K5:=hid (K4.out.grown G5 (fun e=>by simp only [Option.some.injEq] at e;omega))
      have I5:Hid (OwI (w3.setCell ⟨ko,2,none⟩ (Value.slice a3 (Y.length+1) c3)) W0.heap.size (.slice a9 gn c9) G):=ow_at HGI.out (fun j hj=>by
        have h1:=HGB.out j hj
        exact (G5.block j (Nat.lt_of_lt_of_le (Nat.lt_of_lt_of_le h1 (Nat.le_of_lt AX.out.lt)) B3.out.size) (fun e=>by simp only [Option.some.injEq] at e;omega)).trans (B3.out.block j (by omega)))
      have B5:Hid (Below w.heap.size w (w3.setCell ⟨ko,2,none⟩ (Value.slice a3 (Y.length+1) c3))):=(HB.out.trans (B3.out.mono (by omega))).trans (below_of_grown G5 (by omega) (by have h1:=HB.out.size;have h2:=B3.out.size;omega))
      have S5:Hid (ko+1≤(w3.setCell ⟨ko,2,none⟩ (Value.slice a3 (Y.length+1) c3)).heap.size):=by show _≤_;have h1:=HBW.out;have h2:=B3.out.size;have h3:=G5.size;omega
      obtain ⟨W5,hW5⟩:∃ W5,w3.setCell ⟨ko,2,none⟩ (Value.slice a3 (Y.length+1) c3)=W5:=⟨_,rfl⟩;rw [hW5] at X5 O5 A5 R5 K5 I5 B5 S5;simp only [hW5];clear hHeld G5 k3 f3 hW5 co o2 o3 hko hkb
      have HE:Hid ((Y++[(⟨g1,nm1,t1,b1,nx1,.slice a2 m1 c2,.slice d2 n1 e2,L1,G1,wr.heap.size,w2.heap.size⟩:Y9)]).map yd=(S.filter (fun x=>decide (x.1<gid))++[(gid,nm,tm+1,y,1,[],[])])++(S.take (i+1)).filter (fun x=>decide (gid<x.1))):=by show _=_;rw [List.map_append,HZT.out,filt_next hil,HQ.out,if_pos (decide_eq_true hcmp)];simp [yd]
      go_wp2
      go_roundw
      case rel=>exact ⟨i+1,HLT.out,by go_num,_,_,HE.out,O5.out,NV4.out,X5.out,A5.out,R5.out,K5.out,I5.out,S5.out,B5.out⟩
      case measure=>have hlt9:=HLT.out;simp [intOf];omega
    have HE:Hid (Y.map yd=(S.filter (fun x=>decide (x.1<gid))++[(gid,nm,tm+1,y,1,[],[])])++(S.take (i+1)).filter (fun x=>decide (gid<x.1))):=by show _=_;rw [HZT.out,filt_next hil,HQ.out,if_neg (by simpa using hcmp)];simp
    go_wp2
    go_roundw
    case rel=>exact ⟨i+1,HLT.out,by go_num,_,_,HE.out,HOZ.out,HNV.out,AX.out,A6.out,RX.out,HKX.out,HGI.out,HBW.out,HB.out⟩
    case measure=>have hlt9:=HLT.out;simp [intOf];omega
   have HE:Hid (Y.map yd=(S.filter (fun x=>decide (x.1<gid))++[(gid,nm,tm+1,y,1,[],[])])++S.filter (fun x=>decide (gid<x.1))):=by show _=_;rw [HZT.out,List.take_of_length_le (by rw [HL.out];omega)]
   have hko:=HKO.out;have hkb:=HKB.out;obtain ⟨va,vc,rfl⟩:=HOZ.out.shape;obtain ⟨N,hN⟩:∃ N,Y.length=N:=⟨_,rfl⟩;rw [hN] at AX HOZ HNV co;have k0:=AX.out.cells;have f0:=AX.out.loose;obtain ⟨W9,hW9⟩:∃ W9,wr.setCell ⟨ko,1,none⟩ (.int .i64 (tm+1))=W9:=⟨_,rfl⟩
   have g9:wr.grownBy W9 (some ko):=by subst hW9;exact wst (wre _ _) _ _
   have O9:Hid (Sx W9 ko 27 y (tm+1) (.slice va N vc) (.slice a9 gn c9)):=by subst hW9;exact AX.out.s1 _
   have A9:=hid (A6.out.off g9 (by omega));have R9:=hid (RX.out.off g9 (by omega));have B9:Hid (Below w.heap.size w W9):=HB.out.trans (below_of_grown g9 (by omega) HB.out.size)
   have hS1:Y.map yd=insX (gid,nm,tm+1,y,1,[],[]) S:=by rw [HE.out,HINS.out];simp
   have HN9:Hid (OwN W9 W0.heap.size (fun j=>j=ko∨j=w.heap.size+1) (.slice va N vc) (.slice a9 gn c9) (insX (gid,nm,tm+1,y,1,[],[]) S) G):=by
    have hs0:=S0.out;refine ⟨Y,hS1,(HOZ.out.grown g9 (by omega)).base (by omega),ow_at HGI.out (fun j hj=>g9.block j ((HGI.out.lt j hj).2) (fun e=>by have h1:=HGB.out j hj;simp only [Option.some.injEq] at e;omega)),fun j hj hj'=>?_,fun z hz j hj=>?_,fun j hj hp=>?_,fun j hj hp=>?_,fun z hz j j1 j2 hp=>?_⟩
    ·have h1:=HGB.out j hj;have h2:=(HOZ.out.row.lt j hj').1;omega
    ·have h1:=HGB.out j hj;have h2:=(HOZ.out.each z hz).2;omega
    ·have h2:=(HOZ.out.row.lt j hj).1;omega
    ·have h1:=HGB.out j hj;have h2:=(HGI.out.lt j hj).1;omega
    have h2:=(HOZ.out.each z hz).2;omega
   have o9':=O9.out.cells;have HRD:=hid HN9.out.ot.reads
   have HL1:Hid ((insX (gid,nm,tm+1,y,1,[],[]) S).length=N):=by show _=_;rw [← hS1,List.length_map];exact hN
   have HLN:Hid (N≤1048576):=by
    show _≤_
    rw [← HL1.out,insX_len];have h5:=HSLN.out
    omega
   have hco:=AX.out.cells;clear hS1 hN g9 co
   go_wp2_with fail
   (try rw [hW9])
   clear hW9 k0 f0 hco;refine (specStoreOk_any _ _ _ _ y (tm+1) va N vc a9 gn c9 (insX (gid,nm,tm+1,y,1,[],[]) S) G _ HL1.out HLN.out HSBX.out HRD.out.2.2.1 HGL.out HGN.out HRD.out.2.2.2).mono ?_;rintro e wa ⟨rfl,hba⟩;rw [HE2.out];have Aa:=hid (A9.out.later hba);have Ra:=hid (R9.out.later hba);have Oa:=hid (O9.out.later hba);have Ba:=hid (btr B9.out hba);have HNa:=hid (HN9.out.later hba);clear hba o9' A9 R9 O9 B9 HN9 HRD HE hko hkb
   cases ok2
   ·have HE:Hid (false=pik false true false):=rfl
    have c0:=Aa.out.cells
    go_wp2_with fail
    refine (l07Copy_any lo hh lo' hh' y tm ba bn bc ga gn gc S G _ HL.out HN.out HSB.out (HR.out.later Ba.out) HGL.out HGN.out (HIS.out.later Ba.out) HG0.out).mono ?_;rintro e w8 ⟨bv,gv,rfl,hot,hb8⟩;obtain ⟨a8,c8,a9,c9,hv8,hv9⟩:=hot.shape;rw [HL.out] at hv8;rw [HGL.out] at hv9;subst hv8;subst hv9;have r8:=Ra.out.later hb8;have q1:=r8.cells;have q2:=r8.loose;have R8:=hid r8;have O8:=hid hot;have HK8:=hid Ra.out.lt;have B8:=hid (btr Ba.out hb8);clear r8 hot hb8 c0
    go_wp2
    have e2:=put4_grown w8 (w.heap.size+1) y tm (.slice a8 bn c8) (.slice a9 gn c9);have d1:=(R8.out.put4 y tm (.slice a8 bn c8) (.slice a9 gn c9)).cells;unfold put4 at d1 e2;have hk8:=HK8.out;refine bodyPost_ret (v:=.tuple #[.agg #[.int .i64 y,.int .i64 tm,.slice a8 bn c8,.slice a9 gn c9],.bool false]) (by simp [results,Tryz.results150,go_sem,d1]) rfl ⟨_,_,rfl,?_,?_⟩
    ·show OwT _ _ _ _ S G
     exact (O8.out.grown e2 (by omega)).base (by omega)
    have hbs:=B8.out.size;exact B8.out.trans (below_of_grown e2 (by omega) hbs)
   skip
   have o9:=Oa.out.cells;have q1:=Ra.out.cells;have q2:=Ra.out.loose;have HK9:=hid Ra.out.lt
   go_wp2
   have e2:=put4_grown wa (w.heap.size+1) y (tm+1) (.slice va N vc) (.slice a9 gn c9);have d1:=(Ra.out.put4 y (tm+1) (.slice va N vc) (.slice a9 gn c9)).cells;unfold put4 at d1 e2;have hs0:=S0.out;have hk9:=HK9.out;refine bodyPost_ret (v:=.tuple #[.agg #[.int .i64 y,.int .i64 (tm+1),.slice va N vc,.slice a9 gn c9],.bool true]) (by simp [results,Tryz.results150,go_sem,d1]) rfl ⟨_,_,rfl,?_,?_⟩
   ·show OwT _ _ _ _ (insX (gid,nm,tm+1,y,1,[],[]) S) (G)
    exact (HNa.out.set e2 (.inr rfl)).ot.base (by omega)
   have hbs:=Ba.out.size;exact Ba.out.trans (below_of_grown e2 (by omega) hbs)
end Go.Proofs.YtdkedgedkgabnaaGreatDoor
