/- Tiq. -/

import Derived.Test.YtkbecgcbheopnaaGreatdTip
namespace Go.Proofs.YtkbecgcbheopnaaGreat
open Go.RowKit Go.ChangeMaps
theorem sOk_all {y tm:Int} {S:List X7} {G:List Int} (h:sOk y tm S G=true):S.length≤5∧gnM 20 G=true∧(∀ i,i<S.length→stp7 tm G S i=true)∧(gids S).Nodup:=by
 unfold sOk at h
 simp only [Bool.and_eq_true,decide_eq_true_eq] at h
 obtain ⟨_,_,h1,h2,h3,h4⟩:=h
 exact ⟨by omega,h2,fun i hi=>List.all_eq_true.1 h3 i (List.mem_range.2 hi),h4⟩
theorem stp7_all {tm:Int} {G:List Int} {S:List X7} (h:∀ i,i<S.length→stp7 tm G S i=true) {i:Nat} (hi:i<S.length):bxx S[i]=true∧pg S i<S[i].1∧fidx (isN S[i].2.1) S 0=(i:Int)∧inl S[i].1 G=false∧tmOk tm S[i].2.2.1 S[i].2.2.2.2.2.1=true:=by
 have h1:=h i hi
 rw [stp7_at hi rfl] at h1
 simp only [Bool.and_eq_true,decide_eq_true_eq,Bool.not_eq_true'] at h1
 exact ⟨h1.1,h1.2.1,h1.2.2.1,h1.2.2.2.1,h1.2.2.2.2⟩
theorem sOk_pw {y tm:Int} {S:List X7} {G:List Int} (h:sOk y tm S G=true):S.Pairwise (fun a b=>a.1<b.1):=by
 obtain ⟨_,_,h3,_⟩:=sOk_all h
 have hs:∀ i (hi:i+1<S.length),S[i].1<S[i+1].1:=fun i hi=>by
  have h1:=(stp7_all h3 hi).2.1
  rw [pg_succ (by omega)] at h1
  exact h1
 rw [List.pairwise_iff_getElem]
 intro i j hi hj hij
 obtain ⟨d,rfl⟩:∃ d,j=i+1+d:=⟨j - (i+1),by omega⟩
 induction d with
 | zero=>exact hs i hj
 | succ d ih =>
  have h1:=ih (by omega) (by omega)
  have h2:=hs (i+1+d) hj
  exact Int.lt_trans h1 h2
theorem gnM_parts {mo:Int} {G:List Int} (h:gnM mo G=true):asc 0 G=true∧(G.length:Int)≤mo:=by
 unfold gnM at h
 simpa only [Bool.and_eq_true,decide_eq_true_eq] using h
theorem sOk_gone {y tm:Int} {S:List X7} {G:List Int} (h:sOk y tm S G=true):G.Pairwise (·<·)∧G.length≤20:=by
 obtain ⟨h1,h2⟩:=gnM_parts (sOk_all h).2.1
 exact ⟨asc_pair h1,by omega⟩
theorem yc_set1 (Y:List Y9) (i:Nat) (nm:ByteArray) (h:i<Y.length):(yc Y).set (i*7+1) (.string nm)=yc (Y.set i { Y[i] with nm:=nm }):=by
 induction Y generalizing i with
 | nil=>simp at h
 | cons x Y ih =>
  cases i with
  | zero=>rfl
  | succ i =>
   have h':i<Y.length:=by simpa using h
   have:=ih i h'
   have e:(i+1)*7=i*7+1+1+1+1+1+1+1:=by omega
   rw [e]
   simpa [yc] using this
theorem yc_set2 (Y:List Y9) (i:Nat) (t b:Int) (h:i<Y.length):((yc Y).set (i*7+2) (.int .i64 t)).set (i*7+3) (.int .i64 b)=yc (Y.set i { Y[i] with t:=t,b:=b }):=by
 induction Y generalizing i with
 | nil=>simp at h
 | cons x Y ih =>
  cases i with
  | zero=>rfl
  | succ i =>
   have h':i<Y.length:=by simpa using h
   have:=ih i h'
   have e:(i+1)*7=i*7+1+1+1+1+1+1+1:=by omega
   rw [e]
   simpa [yc] using this
theorem LsP.swap {W:World} {B:Nat} {v:Value} {Y:List Y9} (h:LsP W B v Y) (i:Nat) (hi:i<Y.length) (z:Y9) (e1:z.lo=Y[i].lo) (e2:z.hi=Y[i].hi) (e3:z.mv=Y[i].mv) (e4:z.gv=Y[i].gv) (e5:z.L=Y[i].L) (e6:z.G=Y[i].G):LsP W B v (Y.set i z):=by
 refine ⟨fun x hx=>?_,fun x hx=>?_,?_⟩
 ·rcases mem_set hx with hx | rfl
  ·exact h.each x hx
  ·rw [e1,e2,e3,e4,e5,e6]
   exact h.each _ (List.getElem_mem hi)
 ·rcases mem_set hx with hx | rfl
  ·exact h.off x hx
  ·rw [e1,e2]
   exact h.off _ (List.getElem_mem hi)
 ·have e:(Y.set i z).map (fun y=>(y.lo,y.hi))=Y.map (fun y=>(y.lo,y.hi)):=by
   rw [List.map_set,e1,e2]
   apply List.ext_getElem (by simp)
   intro j h1 h2
   rw [List.getElem_set]
   split
   ·rename_i hij
    subst hij
    simp
   ·rfl
  have hp:=h.apart
  have hp2:(Y.map (fun y=>(y.lo,y.hi))).Pairwise (fun a b=>a.2≤b.1∨b.2≤a.1):=by rw [List.pairwise_map];exact hp
  rw [← e,List.pairwise_map] at hp2
  exact hp2
theorem OwS.swap {W W':World} {B g n c:Nat} {Y:List Y9} (h:OwS W B (.slice (some ⟨g,0,none⟩) n c) Y) (hg:W.grownBy W' (some g)) (i:Nat) (hi:i<Y.length) (z:Y9) (e1:z.lo=Y[i].lo) (e2:z.hi=Y[i].hi) (e3:z.mv=Y[i].mv) (e4:z.gv=Y[i].gv) (e5:z.L=Y[i].L) (e6:z.G=Y[i].G)
  (hrow:W'.ownsRow B 37 7 (.slice (some ⟨g,0,none⟩) n c) (Y.set i z).length (yc (Y.set i z))):OwS W' B (.slice (some ⟨g,0,none⟩) n c) (Y.set i z):=by
 have hl:LsP W B (.slice (some ⟨g,0,none⟩) n c) Y:=⟨h.each,h.off,h.apart⟩
 have h2:=(hl.grown hg).swap i hi z e1 e2 e3 e4 e5 e6
 exact ⟨hrow,h2.each,h2.off,h2.apart⟩
theorem OwT.swap {W W':World} {B g n c:Nat} {gv:Value} {S:List X7} {G:List Int} (h:OwT W B (.slice (some ⟨g,0,none⟩) n c) gv S G) (hg:W.grownBy W' (some g)) (i:Nat) (hi:i<S.length) (f:Y9→Y9) (hf:∀ z,(f z).lo=z.lo∧(f z).hi=z.hi∧(f z).mv=z.mv∧(f z).gv=z.gv∧(f z).L=z.L∧(f z).G=z.G) (x:X7) (hx:∀ z,yd z=S[i]→yd (f z)=x)
  (hrow:∀ Y,W.ownsRow B 37 7 (.slice (some ⟨g,0,none⟩) n c) Y.length (yc Y)→∀ h:i<Y.length,W'.ownsRow B 37 7 (.slice (some ⟨g,0,none⟩) n c) (Y.set i (f Y[i])).length (yc (Y.set i (f Y[i])))):OwT W' B (.slice (some ⟨g,0,none⟩) n c) gv (S.set i x) G:=by
 obtain ⟨Y,h1,h2,h3,h4,h5⟩:=h.own
 have hY:i<Y.length:=by rw [← h1,List.length_map] at hi;exact hi
 have hyi:yd Y[i]=S[i]:=by
  have e:=congrArg (fun l=>l[i]?) h1
  simpa [hY,hi] using e
 obtain ⟨f1,f2,f3,f4,f5,f6⟩:=hf Y[i]
 refine ⟨Y.set i (f Y[i]),?_,h2.swap hg i hY _ f1 f2 f3 f4 f5 f6 (hrow Y h2.row hY),World.ownsRow.kept h3 hg ?_,h4,fun z hz j hj=>?_⟩
 ·rw [List.map_set,h1,hx _ hyi]
 ·cases hv:Value.ownBlock gv with
  | none=>exact Or.inl rfl
  | some j=>exact Or.inr (fun e=>by simp only [Option.some.injEq] at e;subst e;exact h4 _ hv rfl)
 ·rcases mem_set hz with hz | rfl
  ·exact h5 z hz j hj
  ·rw [f1,f2]
   exact h5 _ (List.getElem_mem hY) j hj
theorem OwT.name {W:World} {B g n c:Nat} {gv:Value} {S:List X7} {G:List Int} (h:OwT W B (.slice (some ⟨g,0,none⟩) n c) gv S G) (i:Nat) (hi:i<S.length) (nm:ByteArray) {x:X7} (hx:S[i]=x) :
  OwT (W.setCell ⟨g,i*7+1,none⟩ (.string nm)) B (.slice (some ⟨g,0,none⟩) n c) gv (S.set i (x.1,nm,x.2.2)) G:=by
 refine h.swap (wst (wre _ _) _ _) i hi (fun z=>{ z with nm:=nm }) (fun z=>⟨rfl,rfl,rfl,rfl,rfl,rfl⟩) _ (fun z hz=>?_) (fun Y hr hY=>?_)
 ·rw [hx] at hz
  rw [← hz]
  rfl
 ·obtain rfl:n=Y.length:=by
   rcases hr.2 with ⟨h1,h2⟩ | ⟨_,_,_,h1,_⟩
   ·simp at h1
   ·simp only [Value.slice.injEq] at h1;exact h1.2.1
  have h1:=(World.ownsRow.stored hr (i*7+1) (.string nm)).1
  rw [yc_set1 Y i nm hY] at h1
  rw [List.length_set]
  exact h1
theorem OwT.stamp {W:World} {B g n c:Nat} {gv:Value} {S:List X7} {G:List Int} (h:OwT W B (.slice (some ⟨g,0,none⟩) n c) gv S G) (i:Nat) (hi:i<S.length) (t b:Int) {x:X7} (hx:S[i]=x) :
  OwT ((W.setCell ⟨g,i*7+2,none⟩ (.int .i64 t)).setCell ⟨g,i*7+3,none⟩ (.int .i64 b)) B (.slice (some ⟨g,0,none⟩) n c) gv (S.set i (x.1,x.2.1,t,b,x.2.2.2.2)) G:=by
 refine h.swap (wst (wst (wre _ _) _ _) _ _) i hi (fun z=>{ z with t:=t,b:=b }) (fun z=>⟨rfl,rfl,rfl,rfl,rfl,rfl⟩) _ (fun z hz=>?_) (fun Y hr hY=>?_)
 ·rw [hx] at hz
  rw [← hz]
  rfl
 ·obtain rfl:n=Y.length:=by
   rcases hr.2 with ⟨h1,h2⟩ | ⟨_,_,_,h1,_⟩
   ·simp at h1
   ·simp only [Value.slice.injEq] at h1;exact h1.2.1
  have h1:=(World.ownsRow.stored hr (i*7+2) (.int .i64 t)).1
  have h2:=(World.ownsRow.stored h1 (i*7+3) (.int .i64 b)).1
  rw [yc_set2 Y i t b hY] at h2
  rw [List.length_set]
  exact h2
def rnK (nm:ByteArray) (S:List X7) (_:X7):Bool:=!(S.any (isN nm))
def rnF (y tm:Int) (nm:ByteArray) (x:X7):X7:=(x.1,nm,tm+1,y,x.2.2.2.2)
def dbO (S:List X7) (gid:Int):Bool:=decide (0≤fidx (isG gid) S 0)
def dbS (S:List X7) (gid:Int):List X7:=if 0≤fidx (isG gid) S 0 then S.take (fidx (isG gid) S 0).toNat++S.drop ((fidx (isG gid) S 0).toNat+1) else S
theorem db_no {S:List X7} {gid:Int} (h:fidx (isG gid) S 0<0):dbO S gid=false∧dbS S gid=S:=by
 unfold dbO dbS
 rw [if_neg (by omega)]
 exact ⟨by simp;omega,rfl⟩
theorem db_at {S:List X7} {gid:Int} {i:Nat} (h:fidx (isG gid) S 0=(i:Int)):dbO S gid=true∧dbS S gid=S.take i++S.drop (i+1):=by
 unfold dbO dbS
 rw [if_pos (by omega),h]
 exact ⟨by simp,by simp⟩
set_option maxHeartbeats 3200000 in
set_option maxRecDepth 100000 in
theorem renOut_any (k:Nat) (y tm:Int) (bv gv:Value) (S:List X7) (G:List Int) (gid:Int) (nm:ByteArray) (k1 k2:Nat) (w:World) (h:Sx w k 27 y tm bv gv) (ho:OwT w (k+1) bv gv S G) (hn:S.length≤1048576) (hsb:Sb S) (hgn:G.length≤1048576) (ht:0≤tm∧tm≤100000) (hnm:nm.size≤1048576) (hk1:k1<k) (ck1:w.cell? ⟨k1,0,none⟩=some (.int .i64 gid)) (hk2:k2<k) (ck2:w.cell? ⟨k2,0,none⟩=some (.string nm)) :
  Calls Tryz.prog 52 #[.pointer (some ⟨k,0,none⟩),.pointer (some ⟨k1,0,none⟩),.pointer (some ⟨k2,0,none⟩)] w fun e w'=>e=.returned (.bool (chB S gid (rnK nm S) (rnF y tm nm)).1)∧((chB S gid (rnK nm S) (rnF y tm nm)).1=true→∃ bv' gv',Sx w' k 27 y (tm+1) bv' gv'∧OwT w' (k+1) bv' gv' (chB S gid (rnK nm S) (rnF y tm nm)).2 G)∧Below k w w':=by
 obtain ⟨sn,hsn⟩:∃ sn,S.length=sn:=⟨_,rfl⟩
 obtain ⟨gn,hgn'⟩:∃ gn,G.length=gn:=⟨_,rfl⟩
 obtain ⟨ba,bc,ga,gc,hv1,hv2⟩:=ho.shape
 rw [hsn] at hv1
 rw [hgn'] at hv2
 subst hv1
 subst hv2
 have hrd:=ho.reads.2.2.1
 have hrg:=ho.reads.2.2.2
 have c0:=h.cells
 have hkl:=h.lt
 have HKL:=hid hkl
 have A0:=hid h
 have O0:=hid ho
 have HRD:=hid hrd
 have HRG:=hid hrg
 have HSB:=hid hsb
 have HSN:=hid hsn
 have HGN:=hid hgn'
 rw [hsn] at hn
 rw [hgn'] at hgn
 have HN:=hid hn
 have HG:=hid hgn
 have HCk1:=hid ck1
 have HLk1:=hid hk1
 have HCk2:=hid ck2
 have HLk2:=hid hk2
 have HS:Hid (∀ W,Below w.heap.size w W→((W.cell? ⟨k,0,none⟩=some (.int .i64 y)∧W.cell? ⟨k,1,none⟩=some (.int .i64 tm)∧W.cell? ⟨k,2,none⟩=some (.slice ba sn bc)∧W.cell? ⟨k,3,none⟩=some (.slice ga gn gc))∧W.cell? ⟨k1,0,none⟩=some (.int .i64 gid)∧W.cell? ⟨k2,0,none⟩=some (.string nm))):=fun W hb=>⟨(A0.out.later hb).cells,(hb.cell (p:=⟨k1,0,none⟩) (by have h1:=HKL.out;have h2:=HLk1.out;show k1<w.heap.size;omega)).trans HCk1.out,(hb.cell (p:=⟨k2,0,none⟩) (by have h1:=HKL.out;have h2:=HLk2.out;show k2<w.heap.size;omega)).trans HCk2.out⟩
 clear h ho hrd hrg hsb hsn hgn' hgn hkl hk1 hk2
 rcases fidx_cases (isG gid) S 0 with hneg | ⟨i,hi,hiz,_⟩
 ·have HE:Hid ((chB S gid (rnK nm S) (rnF y tm nm)).1=false):=by show _=_;rw [chB_no hneg]
  have HCC:=hid (box_no _ _ k y tm ba sn bc (.slice ga gn gc) S gid w A0.out HSN.out HN.out HRD.out hneg)
  clear hneg
  go_enter Tryz.func52,Tryz.ntmps52
  go_wp2_with fail
  refine HCC.out.mono ?_;rintro e w1 ⟨rfl,hb1⟩
  clear c0 ck1 ck2 HCC
  go_wp2_with fail
  refine wp_region_noPanic ?_
  refine wp_region_held_drew (S:=(fun W=>((W.cell? ⟨k,0,none⟩=some (.int .i64 y)∧W.cell? ⟨k,1,none⟩=some (.int .i64 tm)∧W.cell? ⟨k,2,none⟩=some (.slice ba sn bc)∧W.cell? ⟨k,3,none⟩=some (.slice ga gn gc))∧W.cell? ⟨k1,0,none⟩=some (.int .i64 gid)∧W.cell? ⟨k2,0,none⟩=some (.string nm)))) (by kernel_rfl) (HS.out _ bb) (fun hHeld=>?_)
  refine tk 0 ?_
  refine tk 1 ?_
  refine tk 2 ?_
  refine tn 3 ?_
  refine tn 4 ?_
  refine tn 5 ?_
  refine tn 6 ?_
  refine tn 7 ?_
  refine tn 8 ?_
  refine tk 9 ?_
  refine wpAnyH_done (by kernel_rfl) ?_ _
  refine NoPanic.normal ?_
  clear hHeld
  have HB1:Hid (Below k w w1):=hb1.mono (Nat.le_of_lt HKL.out)
  clear hb1
  go_wp2
  go_ret
  exact ⟨by rw [HE.out];rfl,(fun h=>by rw [HE.out] at h;cases h),HB1.out.drew⟩
 rw [Nat.zero_add] at hiz
 obtain ⟨gb,rfl⟩:=O0.out.addr hi
 obtain ⟨x,hx⟩:∃ x,S[i]=x:=⟨_,rfl⟩
 have hcb:=chB_at (ok:=rnK nm S) (f:=rnF y tm nm) hiz hi hx
 have HCB:=hid hcb
 have hib:i<sn:=by rw [← HSN.out];exact hi
 have HX:=hid hx
 have HCC:=hid (box_at _ _ k y tm gb sn bc (.slice ga gn gc) S gid i w A0.out HSN.out HN.out HRD.out hiz hib)
 obtain ⟨q,hq⟩:∃ q,S.any (isN nm)=q:=⟨_,rfl⟩
 obtain ⟨zn,hzn⟩:∃ zn,fidx (isN nm) S 0=zn:=⟨_,rfl⟩
 have hqz:decide (0≤zn)=q:=by rw [← hzn,fidx_any,hq]
 have HOK:Hid ((chB S gid (rnK nm S) (rnF y tm nm)).1=!q):=by show _=_;rw [hcb,← hq];rfl
 have HF:Hid ((chB S gid (rnK nm S) (rnF y tm nm)).2=S.set i (rnF y tm nm x)):=by show _=_;rw [hcb]
 have HZN:=hid hzn
 clear hcb hq hzn hx hiz
 go_enter Tryz.func52,Tryz.ntmps52
 go_wp2_with fail
 refine HCC.out.mono ?_;rintro e w1 ⟨rfl,hb1⟩
 clear c0 ck1 ck2 HCC
 go_wp2_with fail
 refine wp_region_noPanic ?_
 refine wp_region_held_drew (S:=(fun W=>((W.cell? ⟨k,0,none⟩=some (.int .i64 y)∧W.cell? ⟨k,1,none⟩=some (.int .i64 tm)∧W.cell? ⟨k,2,none⟩=some (.slice (some ⟨gb,0,none⟩) sn bc)∧W.cell? ⟨k,3,none⟩=some (.slice ga gn gc))∧W.cell? ⟨k1,0,none⟩=some (.int .i64 gid)∧W.cell? ⟨k2,0,none⟩=some (.string nm)))) (by kernel_rfl) (HS.out _ bb) (fun hHeld=>?_)
 refine tk 0 ?_
 refine tk 1 ?_
 refine tk 2 ?_
 refine tk 3 ?_
 refine tk 4 ?_
 refine tk 5 ?_
 refine tk 6 ?_
 clear hHeld
 refine ry 7 (fun K hK=>?_)
 go_simp
 refine (implBoxNamed_any _ _ y tm (some ⟨gb,0,none⟩) sn bc (.slice ga gn gc) S nm _ HSN.out HN.out (HRD.out.later bb)).mono ?_;rintro e w2 ⟨rfl,hb2⟩
 rw [HZN.out]
 go_wp2_with fail
 refine hK.out _ _ (HS.out _ bb) (fun hHeld=>?_)
 clear hK K
 try simp only [Act.put,tp2,tp3,tp4]
 refine tk 8 ?_
 refine tk 9 ?_
 refine wpAnyH_done (by kernel_rfl) ?_ _
 refine NoPanic.normal ?_
 clear hHeld
 have hb02:Below w.heap.size w w2:=by repeat (first | exact bre _ | refine bdr ?_ | refine btr ?_ (by assumption) | refine bpush ?_ _)
 have HB2:=hid hb02
 have A2:=hid (A0.out.later hb02)
 have O2:=hid (O0.out.later hb02)
 clear hb1 hb2 hb02
 cases q
 case true =>
  have hz:0≤zn:=by simpa using hqz
  have HE:Hid ((chB S gid (rnK nm S) (rnF y tm nm)).1=false):=by show _=_;rw [HOK.out];rfl
  go_wp2
  go_ret
  exact ⟨by rw [HE.out];rfl,(fun h=>by rw [HE.out] at h;cases h),HB2.out.mono (Nat.le_of_lt HKL.out)⟩
 have hz:¬ 0≤zn:=by simpa using hqz
 have HE:Hid ((chB S gid (rnK nm S) (rnF y tm nm)).1=true):=by show _=_;rw [HOK.out];rfl
 have d2:=(HB2.out.cell (p:=⟨k2,0,none⟩) (by have h1:=HKL.out;have h2:=HLk2.out;show k2<w.heap.size;omega)).trans HCk2.out
 go_wp2_with fail
 refine (clone_any nm _ hnm).mono ?_;rintro e w3 ⟨rfl,hb3⟩
 have A3:=hid (A2.out.later hb3)
 have O3:=hid (O2.out.later hb3)
 have B3:=hid (btr HB2.out hb3)
 clear hb3 A2 O2 HB2 d2 hqz hz
 obtain ⟨ma3,mc3,ga3,gc3,d3,e31,e32,e33,e34,f3⟩:=O3.out.cells i hi
 have d3:=d3.2.1
 obtain ⟨q2,hq2⟩:∃ q2,S[i].2.1=q2:=⟨_,rfl⟩
 rw [hq2] at d3
 obtain ⟨W4,hW4⟩:∃ W4,w3.setCell ⟨gb,i*7+1,none⟩ (.string nm)=W4:=⟨_,rfl⟩
 have g4:w3.grownBy W4 (some gb):=by subst hW4;exact wst (wre _ _) _ _
 have hgb:k+1≤gb∧gb<w3.heap.size:=by
  obtain ⟨Y,_,h2,_⟩:=O3.out.own
  exact h2.row.lt gb rfl
 have A4:=hid (A3.out.off g4 (by omega))
 have O4:Hid (OwT W4 (k+1) (.slice (some ⟨gb,0,none⟩) sn bc) (.slice ga gn gc) (S.set i (x.1,nm,x.2.2)) G):=by subst hW4;exact O3.out.name i hi nm HX.out
 have B4:Hid (Below k w W4):=(B3.out.mono (Nat.le_of_lt HKL.out)).trans (below_of_grown g4 (by omega) (by have h1:=B3.out.size;have h2:=HKL.out;omega))
 clear hq2 g4 A3 O3 e31 e32 e33 e34
 go_wp2_with fail
 try rw [hW4]
 clear hW4 d3 f3
 refine (giveStamp_any k y tm _ _ W4 A4.out (by omega)).mono ?_;rintro e w5 ⟨rfl,hsx5,hg5⟩
 have O5:=hid (O4.out.grown hg5 (by omega))
 have A5:=hid hsx5
 have B5:Hid (Below k w w5):=B4.out.trans (below_of_grown hg5 (Nat.le_refl _) (Nat.le_of_lt A4.out.lt))
 have hs5:gb<w5.heap.size:=by
  obtain ⟨Y,_,h2,_⟩:=O5.out.own
  exact (h2.row.lt gb rfl).2
 have hi5:i<(S.set i (x.1,nm,x.2.2)).length:=by rw [List.length_set];exact hi
 obtain ⟨ma5,mc5,ga5,gc5,d5,e51,e52,e53,e54,f5⟩:=O5.out.cells i hi5
 have d5a:=d5.2.2.1
 have d5b:=d5.2.2.2.1
 obtain ⟨q3,hq3⟩:∃ q3,(S.set i (x.1,nm,x.2.2))[i].2.2.1=q3:=⟨_,rfl⟩
 obtain ⟨q4,hq4⟩:∃ q4,(S.set i (x.1,nm,x.2.2))[i].2.2.2.1=q4:=⟨_,rfl⟩
 rw [hq3] at d5a
 rw [hq4] at d5b
 have HI5:=hid hi5
 clear hsx5 hg5 A4 O4 B4 d5 hq3 hq4 e51 e52 e53 e54
 go_wp2
 have O6:=O5.out.stamp i HI5.out (tm+1) y (x:=(x.1,nm,x.2.2)) (by simp)
 have g6:w5.grownBy ((w5.setCell ⟨gb,i*7+2,none⟩ (.int .i64 (tm+1))).setCell ⟨gb,i*7+3,none⟩ (.int .i64 y)) (some gb):=wst (wst (wre _ _) _ _) _ _
 go_ret
 refine ⟨by rw [HE.out];rfl,fun _=>⟨_,_,A5.out.off g6 (by omega),?_⟩,B5.out.trans (below_of_grown g6 (by omega) (by omega))⟩
 rw [HF.out]
 rw [List.set_set] at O6
 exact O6
set_option maxHeartbeats 3200000 in
set_option maxRecDepth 100000 in
theorem dropOutB_any (k:Nat) (y tm:Int) (bv gv:Value) (S:List X7) (G:List Int) (gid:Int) (k1:Nat) (w:World) (h:Sx w k 27 y tm bv gv) (ho:OwT w (k+1) bv gv S G) (hn:S.length≤1048576) (hsb:Sb S) (hgn:G.length≤1048576) (hgp:G.Pairwise (·<·)) (hgx:∀ x∈S,x.1=gid→∀ z∈G,z≠gid) (hk1:k1<k) (ck1:w.cell? ⟨k1,0,none⟩=some (.int .i64 gid)) :
  Calls Tryz.prog 54 #[.pointer (some ⟨k,0,none⟩),.pointer (some ⟨k1,0,none⟩)] w fun e w'=>e=.returned (.bool (dbO S gid))∧(dbO S gid=true→∃ bv' gv',Sx w' k 27 y tm bv' gv'∧OwT w' (k+1) bv' gv' (dbS S gid) (pin gid G))∧Below k w w':=by
 obtain ⟨sn,hsn⟩:∃ sn,S.length=sn:=⟨_,rfl⟩
 obtain ⟨gn,hgn'⟩:∃ gn,G.length=gn:=⟨_,rfl⟩
 obtain ⟨ba,bc,ga,gc,hv1,hv2⟩:=ho.shape
 rw [hsn] at hv1
 rw [hgn'] at hv2
 subst hv1
 subst hv2
 have hrd:=ho.reads.2.2.1
 have hrg:=ho.reads.2.2.2
 have c0:=h.cells
 have hkl:=h.lt
 have HKL:=hid hkl
 have A0:=hid h
 have O0:=hid ho
 have HRD:=hid hrd
 have HRG:=hid hrg
 have HSB:=hid hsb
 have HSN:=hid hsn
 have HGN:=hid hgn'
 rw [hsn] at hn
 rw [hgn'] at hgn
 have HN:=hid hn
 have HG:=hid hgn
 have hg0:ga=none→gc=0:=by
  obtain ⟨Y,_,_,h3,_⟩:=ho.own
  obtain ⟨a9,c9,e9,e8⟩:=h3.shape
  simp only [Value.slice.injEq] at e9
  intro hga
  rw [e9.2.2]
  exact e8 (by rw [← e9.1];exact hga)
 have HG0:=hid hg0
 have HGP:=hid hgp
 have HGXX:=hid hgx
 have HCk1:=hid ck1
 have HLk1:=hid hk1
 have HS:Hid (∀ W,Below w.heap.size w W→((W.cell? ⟨k,0,none⟩=some (.int .i64 y)∧W.cell? ⟨k,1,none⟩=some (.int .i64 tm)∧W.cell? ⟨k,2,none⟩=some (.slice ba sn bc)∧W.cell? ⟨k,3,none⟩=some (.slice ga gn gc))∧W.cell? ⟨k1,0,none⟩=some (.int .i64 gid))):=fun W hb=>⟨(A0.out.later hb).cells,(hb.cell (p:=⟨k1,0,none⟩) (by have h1:=HKL.out;have h2:=HLk1.out;show k1<w.heap.size;omega)).trans HCk1.out⟩
 obtain ⟨zz,hzz⟩:∃ zz,fidx (isG gid) S 0=zz:=⟨_,rfl⟩
 have HZ:=hid hzz
 clear h ho hrd hrg hsb hsn hgn' hgn hkl hk1 hzz hg0 hgp hgx
 go_enter Tryz.func54,Tryz.ntmps54
 go_wp2_with fail
 clear c0 ck1
 refine wp_region_noPanic ?_
 refine wp_region_held_drew (S:=(fun W=>((W.cell? ⟨k,0,none⟩=some (.int .i64 y)∧W.cell? ⟨k,1,none⟩=some (.int .i64 tm)∧W.cell? ⟨k,2,none⟩=some (.slice ba sn bc)∧W.cell? ⟨k,3,none⟩=some (.slice ga gn gc))∧W.cell? ⟨k1,0,none⟩=some (.int .i64 gid)))) (by kernel_rfl) (HS.out _ bb) (fun hHeld=>?_)
 refine tk 0 ?_
 refine tk 1 ?_
 refine tk 2 ?_
 refine tk 3 ?_
 clear hHeld
 refine ry 4 (fun K hK=>?_)
 go_simp
 refine (implBoxAt_any _ _ y tm ba sn bc (.slice ga gn gc) S gid _ HSN.out HN.out (HRD.out.later bb)).mono ?_;rintro e w1 ⟨rfl,hb1⟩
 rw [HZ.out]
 go_wp2_with fail
 refine hK.out _ _ (HS.out _ bb) (fun hHeld=>?_)
 clear hK K
 try simp only [Act.put,tp2,tp3,tp4]
 refine tk 5 ?_
 refine wpAnyH_done (by kernel_rfl) ?_ _
 refine NoPanic.normal ?_
 clear hHeld
 have hb01:Below w.heap.size w w1:=by repeat (first | exact bre _ | refine bdr ?_ | refine btr ?_ (by assumption) | refine bpush ?_ _)
 have A1:=hid (A0.out.later hb01)
 have O1:=hid (O0.out.later hb01)
 have HB1:=hid hb01
 clear hb1 hb01
 rcases fidx_cases (isG gid) S 0 with hneg | ⟨i,hi,hiz,hpi⟩
 ·have HE:=hid (db_no hneg)
  rw [HZ.out] at hneg
  go_wp2
  go_ret
  exact ⟨by rw [HE.out.1];rfl,(fun h=>by rw [HE.out.1] at h;cases h),HB1.out.mono (Nat.le_of_lt HKL.out)⟩
 rw [Nat.zero_add] at hiz
 have HE:=hid (db_at hiz)
 have HGX:Hid (∀ z∈G,z≠gid):=HGXX.out S[i] (List.getElem_mem hi) (by simpa [isG] using hpi)
 rw [HZ.out] at hiz
 subst hiz
 obtain ⟨gb,rfl⟩:=O1.out.addr hi
 obtain ⟨Y,hY1,hY2,hY3,hY4,hY5⟩:=O1.out.own
 have hYl:Y.length=sn:=by rw [← HSN.out,← hY1,List.length_map]
 have hiY:i<Y.length:=by rw [hYl,← HSN.out];exact hi
 have HDL:=hid (deleteBx_any (k+1) gb bc i Y w1 (by rw [hYl];exact hY2) hiY)
 rw [hYl] at HDL
 have HY1:=hid hY1
 have HY3:=hid hY3
 have HY4:=hid hY4
 have HY5:=hid hY5
 have HYL:=hid hYl
 have hgb:=hY2.row.lt gb rfl
 have HGB:=hid hgb
 have hib:i<sn:=by rw [← hYl];exact hiY
 have hi1:¬ (i:Int)<0:=by omega
 have hsnb:=HN.out
 have c1:=A1.out.cells
 clear hY1 hY2 hY3 hY4 hY5 hYl hgb hpi
 go_wp2_with fail
 refine HDL.out.mono ?_;rintro e w3 ⟨rfl,hos3,hg3⟩
 have a3:=A1.out.off hg3 (by have:=HGB.out;omega)
 have c3:=a3.cells
 have f3:=a3.loose
 have A3:=hid a3
 have O3:=hid hos3
 have HG3:=hid hg3
 obtain ⟨W4,hW4⟩:∃ W4,w3.setCell ⟨k,2,none⟩ (.slice (some ⟨gb,0,none⟩) (sn - 1) bc)=W4:=⟨_,rfl⟩
 have g4:w3.grownBy W4 (some k):=by subst hW4;exact wst (wre _ _) _ _
 have A4:Hid (Sx W4 k 27 y tm (.slice (some ⟨gb,0,none⟩) (sn - 1) bc) (.slice ga gn gc)):=by subst hW4;exact A3.out.s2 _
 have O4:=hid (O3.out.grown g4 (by omega))
 have HGI3:Hid (OwI w3 (k+1) (.slice ga gn gc) G):=World.ownsRow.kept HY3.out HG3.out (by
   cases hv:Value.ownBlock (.slice ga gn gc) with
   | none=>exact Or.inl rfl
   | some j=>exact Or.inr (fun e=>by simp only [Option.some.injEq] at e;subst e;exact HY4.out _ hv rfl))
 have HGI4:=hid (OwI.grown HGI3.out g4 (by omega))
 have hk1w:k1<w.heap.size:=by have h1:=HKL.out;have h2:=HLk1.out;omega
 have hkw:k<w1.heap.size:=A1.out.lt
 have HB4:Hid (Below k w W4):=((HB1.out.mono (Nat.le_of_lt HKL.out)).trans (below_of_grown HG3.out (by have:=HGB.out;omega) (by omega))).trans (below_of_grown g4 (Nat.le_refl _) (by have:=HG3.out.size;omega))
 have HK4:Hid (∀ W,Below W4.heap.size W4 W→W.cell? ⟨k1,0,none⟩=some (.int .i64 gid)):=fun W hb=>(hb.cell (p:=⟨k1,0,none⟩) (by have h1:=HB4.out.size;show k1<W4.heap.size;omega)).trans ((HB4.out.cell (p:=⟨k1,0,none⟩) HLk1.out).trans HCk1.out)
 have HRG4:Hid (Is (k+1) W4.heap.size W4.drew ga G):=(OwI.is (own_later HGI4.out (bdr (bre _)))).2
 have dd:=(A4.out.later (bdr (bre W4))).cells
 clear a3 hos3 hg3 g4 A1 O1 HY3 HDL
 go_wp2_with fail
 try rw [hW4]
 clear hW4 c3 f3 c1
 refine wp_region_noPanic ?_
 refine wp_region_held_drew (S:=(fun W=>W.cell? ⟨k1,0,none⟩=some (.int .i64 gid))) (by kernel_rfl) (HK4.out _ (bdr (bre _))) (fun hHeld=>?_)
 refine tk 0 ?_
 refine tk 1 ?_
 refine tk 2 ?_
 refine tk 3 ?_
 refine tk 5 ?_
 clear hHeld
 refine ry 4 (fun K hK=>?_)
 go_simp
 refine hK.out _ _ (HK4.out _ (bdr (bre _))) (fun hHeld=>?_)
 clear hK K
 try simp only [Act.put,tp2,tp3,tp4]
 clear hHeld
 refine ry 6 (fun K hK=>?_)
 go_simp
 refine (goneWith_any _ _ ga gn gc G gid _ HGN.out HG.out HRG4.out HG0.out HGP.out HGX.out).mono ?_;rintro e w5 ⟨gv5,rfl,hg5,hb5⟩
 have a5:Sx w5 k 27 y tm (.slice (some ⟨gb,0,none⟩) (sn - 1) bc) (.slice ga gn gc):=A4.out.later (btr (bdr (bre _)) hb5)
 have c5:=a5.cells
 have f5:=a5.loose
 obtain ⟨ag,cg,hgv5,_⟩:=hg5.shape
 obtain ⟨n5,hn5⟩:∃ n5,(pin gid G).length=n5:=⟨_,rfl⟩
 rw [hn5] at hgv5
 subst hgv5
 have A5:=hid a5
 have G5:=hid hg5
 have HB5:=hid hb5
 have d5:=HK4.out w5 (btr (bdr (bre _)) hb5)
 have D6:Hid ((w5.setCell ⟨k,3,none⟩ (.slice ag n5 cg)).cell? ⟨k1,0,none⟩=some (.int .i64 gid)):=by
  have hg9:w5.grownBy (w5.setCell ⟨k,3,none⟩ (.slice ag n5 cg)) (some k):=wst (wre _ _) _ _
  exact (cell_same (p:=⟨k1,0,none⟩) (hg9.block k1 (by have h1:=HLk1.out;have h2:=A5.out.lt;omega) (fun e=>by have h1:=HLk1.out;simp only [Option.some.injEq] at e;omega))).trans d5
 have D5:=hid d5
 clear a5 hg5 hb5 hn5 d5
 go_wp2_with fail
 refine hK.out _ _ (D5.out) (fun hHeld=>?_)
 clear hK K
 try simp only [Act.put,tp2,tp3,tp4]
 refine tk 7 ?_
 refine tk 8 ?_
 clear hHeld
 refine ry 9 (fun K hK=>?_)
 go_simp
 refine hK.out _ _ (D6.out) (fun hHeld=>?_)
 clear hK K
 try simp only [Act.put,tp2,tp3,tp4]
 refine wpAnyH_done (by kernel_rfl) ?_ _
 refine NoPanic.normal ?_
 clear hHeld
 go_wp2
 go_ret
 have hg9:w5.grownBy (w5.setCell ⟨k,3,none⟩ (.slice ag n5 cg)) (some k):=wst (wre _ _) _ _
 have hbb:Below W4.heap.size W4 w5:=btr (bdr (bre _)) HB5.out
 have hk4:=A4.out.lt
 refine ⟨by rw [HE.out.1];rfl,fun _=>⟨_,_,A5.out.s3 _,?_⟩,?_⟩
 ·rw [HE.out.2]
  refine ⟨delY i Y,?_,(O4.out.later hbb).grown hg9 (by omega),own_base (OwI.grown G5.out hg9 (by show k<W4.heap.size;omega)) (by show k+1≤W4.heap.size;omega),?_,?_⟩
  ·unfold delY
   rw [List.map_append,List.map_take,List.map_drop,HY1.out]
  ·exact Dj.later O4.out.row G5.out (Nat.le_refl _)
  ·intro z hz j hj
   have h1:=(O4.out.each z hz).1.top
   have h2:W4.heap.size≤j:=(G5.out.lt j hj).1
   exact .inr (by omega)
 ·exact HB4.out.trans ((hbb.mono (by omega)).trans (below_of_grown hg9 (Nat.le_refl _) (by have:=hbb.size;omega)))
set_option maxHeartbeats 3200000 in
set_option maxRecDepth 100000 in
theorem makeOut_any (k:Nat) (y tm:Int) (bv gv:Value) (S:List X7) (G:List Int) (gid:Int) (nm:ByteArray) (k1 k2:Nat) (w:World) (h:Sx w k 27 y tm bv gv) (ho:OwT w (k+1) bv gv S G) (hn5:S.length≤1048575) (hsb:Sb S) (hgn:G.length≤1048576) (ht:0≤tm∧tm≤100000) (hnm:nm.size≤1048576) (hpw:S.Pairwise (fun a b=>a.1<b.1)) (hk1:k1<k) (ck1:w.cell? ⟨k1,0,none⟩=some (.int .i64 gid)) (hk2:k2<k) (ck2:w.cell? ⟨k2,0,none⟩=some (.string nm)) :
  Calls Tryz.prog 41 #[.pointer (some ⟨k,0,none⟩),.pointer (some ⟨k1,0,none⟩),.pointer (some ⟨k2,0,none⟩)] w fun e w'=>e=.returned (.bool (!kno gid S G&&!(S.any (isN nm))))∧((!kno gid S G&&!(S.any (isN nm)))=true→∃ bv' gv',Sx w' k 27 y (tm+1) bv' gv'∧OwT w' (k+1) bv' gv' (insX (gid,nm,tm+1,y,1,[],[]) S) G)∧Below k w w':=by
 have HN5:=hid hn5
 have hn:S.length≤1048576:=by omega
 obtain ⟨sn,hsn⟩:∃ sn,S.length=sn:=⟨_,rfl⟩
 obtain ⟨gn,hgn'⟩:∃ gn,G.length=gn:=⟨_,rfl⟩
 obtain ⟨ba,bc,ga,gc,hv1,hv2⟩:=ho.shape
 rw [hsn] at hv1
 rw [hgn'] at hv2
 subst hv1
 subst hv2
 have hrd:=ho.reads.2.2.1
 have hrg:=ho.reads.2.2.2
 have c0:=h.cells
 have hkl:=h.lt
 have HKL:=hid hkl
 have A0:=hid h
 have O0:=hid ho
 have HRD:=hid hrd
 have HRG:=hid hrg
 have HSB:=hid hsb
 have HSN:=hid hsn
 have HGN:=hid hgn'
 rw [hsn] at hn
 rw [hgn'] at hgn
 have HN:=hid hn
 have HG:=hid hgn
 have HCk1:=hid ck1
 have HLk1:=hid hk1
 have HCk2:=hid ck2
 have HLk2:=hid hk2
 have HS:Hid (∀ W,Below w.heap.size w W→((W.cell? ⟨k,0,none⟩=some (.int .i64 y)∧W.cell? ⟨k,1,none⟩=some (.int .i64 tm)∧W.cell? ⟨k,2,none⟩=some (.slice ba sn bc)∧W.cell? ⟨k,3,none⟩=some (.slice ga gn gc))∧W.cell? ⟨k1,0,none⟩=some (.int .i64 gid)∧W.cell? ⟨k2,0,none⟩=some (.string nm))):=fun W hb=>⟨(A0.out.later hb).cells,(hb.cell (p:=⟨k1,0,none⟩) (by have h1:=HKL.out;have h2:=HLk1.out;show k1<w.heap.size;omega)).trans HCk1.out,(hb.cell (p:=⟨k2,0,none⟩) (by have h1:=HKL.out;have h2:=HLk2.out;show k2<w.heap.size;omega)).trans HCk2.out⟩
 have HPW:=hid hpw
 obtain ⟨qk,hqk⟩:∃ qk,kno gid S G=qk:=⟨_,rfl⟩
 obtain ⟨qn,hqn⟩:∃ qn,S.any (isN nm)=qn:=⟨_,rfl⟩
 obtain ⟨zn,hzn⟩:∃ zn,fidx (isN nm) S 0=zn:=⟨_,rfl⟩
 have hqz:decide (0≤zn)=qn:=by rw [← hzn,fidx_any,hqn]
 have HQK:=hid hqk
 have HQN:=hid hqn
 have HZN:=hid hzn
 clear h ho hrd hrg hsb hsn hgn' hgn hkl hk1 hk2 hqk hqn hzn hn5 hpw
 go_enter Tryz.func41,Tryz.ntmps41
 go_wp2_with fail
 clear c0 ck1 ck2
 refine wp_region_noPanic ?_
 refine wp_region_held_drew (S:=(fun W=>((W.cell? ⟨k,0,none⟩=some (.int .i64 y)∧W.cell? ⟨k,1,none⟩=some (.int .i64 tm)∧W.cell? ⟨k,2,none⟩=some (.slice ba sn bc)∧W.cell? ⟨k,3,none⟩=some (.slice ga gn gc))∧W.cell? ⟨k1,0,none⟩=some (.int .i64 gid)∧W.cell? ⟨k2,0,none⟩=some (.string nm)))) (by kernel_rfl) (HS.out _ bb) (fun hHeld=>?_)
 refine tk 0 ?_
 refine tk 1 ?_
 refine tk 2 ?_
 refine tk 3 ?_
 clear hHeld
 refine ry 4 (fun K hK=>?_)
 go_simp
 refine (implKnows_any _ _ _ _ y tm ba sn bc ga gn gc S G gid _ HSN.out HN.out HSB.out (HRD.out.later bb) HGN.out HG.out (HRG.out.later bb)).mono ?_;rintro e w1 ⟨rfl,hb1⟩
 rw [HQK.out]
 go_wp2_with fail
 refine hK.out _ _ (HS.out _ bb) (fun hHeld=>?_)
 clear hK K
 try simp only [Act.put,tp2,tp3,tp4]
 cases qk
 ·refine tk 5 ?_
  refine tk 6 ?_
  refine tk 7 ?_
  refine tk 8 ?_
  refine tk 9 ?_
  clear hHeld
  refine ry 10 (fun K hK=>?_)
  go_simp
  refine (implBoxNamed_any _ _ y tm ba sn bc (.slice ga gn gc) S nm _ HSN.out HN.out (HRD.out.later bb)).mono ?_;rintro e w2 ⟨rfl,hb2⟩
  rw [HZN.out]
  go_wp2_with fail
  refine hK.out _ _ (HS.out _ bb) (fun hHeld=>?_)
  clear hK K
  try simp only [Act.put,tp2,tp3,tp4]
  refine tk 11 ?_
  refine tk 12 ?_
  refine wpAnyH_done (by kernel_rfl) ?_ _
  refine NoPanic.normal ?_
  have hb02:Below w.heap.size w w2:=by repeat (first | exact bre _ | refine bdr ?_ | refine btr ?_ (by assumption) | refine bpush ?_ _)
  have HB2:=hid hb02
  have A2:=hid (A0.out.later hb02)
  have O2:=hid (O0.out.later hb02)
  clear hHeld hb1 hb2 hb02
  cases qn
  case true =>
   have hz:0≤zn:=by simpa using hqz
   have HE:Hid ((!kno gid S G&&!(S.any (isN nm)))=false):=by show _=_;rw [HQK.out,HQN.out];rfl
   go_wp2
   go_ret
   exact ⟨by rw [HE.out];rfl,(fun h=>by rw [HE.out] at h;cases h),HB2.out.mono (Nat.le_of_lt HKL.out)⟩
  have hz:¬ 0≤zn:=by simpa using hqz
  have HE:Hid ((!kno gid S G&&!(S.any (isN nm)))=true):=by show _=_;rw [HQK.out,HQN.out];rfl
  have HK:Hid (∀ W,Below k w2 W→(W.cell? ⟨k1,0,none⟩=some (.int .i64 gid)∧W.cell? ⟨k2,0,none⟩=some (.string nm))):=fun W hb=>⟨(hb.cell (p:=⟨k1,0,none⟩) HLk1.out).trans ((HB2.out.cell (p:=⟨k1,0,none⟩) (by have h1:=HKL.out;have h2:=HLk1.out;show k1<w.heap.size;omega)).trans HCk1.out),(hb.cell (p:=⟨k2,0,none⟩) HLk2.out).trans ((HB2.out.cell (p:=⟨k2,0,none⟩) (by have h1:=HKL.out;have h2:=HLk2.out;show k2<w.heap.size;omega)).trans HCk2.out)⟩
  go_wp2_with fail
  refine wp_region_noPanic ?_
  refine wp_region_held_drew (S:=(fun W=>(W.cell? ⟨k1,0,none⟩=some (.int .i64 gid)∧W.cell? ⟨k2,0,none⟩=some (.string nm)))) (by kernel_rfl) (HK.out _ (by repeat (first | exact Below.refl _ _ | refine Below.drew ?_ | refine Below.trans ?_ (by assumption)))) (fun hHeld=>?_)
  refine tk 0 ?_
  refine tk 1 ?_
  refine tk 2 ?_
  refine tk 4 ?_
  clear hHeld
  refine ry 3 (fun K hK=>?_)
  go_simp
  refine (clone_any nm _ hnm).mono ?_;rintro e w3 ⟨rfl,hb3⟩
  have A3:=hid (A2.out.later (btr (bdr (bre _)) hb3))
  have O3:=hid (O2.out.later (btr (bdr (bre _)) hb3))
  have hs3:w2.heap.size≤w3.heap.size:=hb3.size
  have hq3:Below k w2.drew w3:=hb3.mono (by show k≤w2.heap.size;have:=A2.out.lt;omega)
  go_wp2_with fail
  refine hK.out _ _ (HK.out _ (by repeat (first | exact Below.refl _ _ | refine Below.drew ?_ | refine Below.trans ?_ (by assumption)))) (fun hHeld=>?_)
  clear hK K
  try simp only [Act.put,tp2,tp3,tp4]
  clear hHeld
  refine ry 5 (fun K hK=>?_)
  go_simp
  refine (giveStamp_any k y tm _ _ _ A3.out (by omega)).mono ?_;rintro e w4 ⟨rfl,hsx4,hg4⟩
  have O4:=hid (O3.out.grown hg4 (by omega))
  have A4:=hid hsx4
  have hq4:Below k w3 w4:=below_of_grown hg4 (Nat.le_refl _) (Nat.le_of_lt A3.out.lt)
  go_wp2_with fail
  refine hK.out _ _ (HK.out _ (by repeat (first | exact Below.refl _ _ | refine Below.drew ?_ | refine Below.trans ?_ (by assumption)))) (fun hHeld=>?_)
  clear hK K
  try simp only [Act.put,tp2,tp3,tp4]
  refine tk 6 ?_
  clear hHeld
  refine ry 7 (fun K hK=>?_)
  go_simp
  refine (putBox_any k y (tm+1) _ _ S G gid nm (tm+1) y 1 _ A4.out O4.out HN5.out HPW.out).mono ?_;rintro e w5 ⟨rfl,bv5,hsx5,hot5,hq5⟩
  have O5:=hid hot5
  have A5:=hid hsx5
  go_wp2_with fail
  refine hK.out _ _ (HK.out _ (by repeat (first | exact Below.refl _ _ | refine Below.drew ?_ | refine Below.trans ?_ (by assumption)))) (fun hHeld=>?_)
  clear hK K
  try simp only [Act.put,tp2,tp3,tp4]
  refine wpAnyH_done (by kernel_rfl) ?_ _
  refine NoPanic.normal ?_
  clear hHeld
  have HQ5:Hid (Below k w w5):=(HB2.out.mono (Nat.le_of_lt HKL.out)).trans (show Below k w2 w5 by repeat (first | exact Below.refl _ _ | refine Below.drew ?_ | refine Below.trans ?_ (by assumption)))
  clear hq3 hq4 hq5
  go_wp2
  go_ret
  exact ⟨by rw [HE.out];rfl,fun _=>⟨_,_,A5.out,O5.out⟩,HQ5.out⟩
 ·refine tk 5 ?_
  refine tn 6 ?_
  refine tn 7 ?_
  refine tn 8 ?_
  refine tn 9 ?_
  refine tn 10 ?_
  refine tn 11 ?_
  refine tk 12 ?_
  refine wpAnyH_done (by kernel_rfl) ?_ _
  refine NoPanic.normal ?_
  have hb01:Below w.heap.size w w1:=by repeat (first | exact bre _ | refine bdr ?_ | refine btr ?_ (by assumption) | refine bpush ?_ _)
  have HB1:=hid hb01
  clear hHeld hb1 hb01
  have HE:Hid ((!kno gid S G&&!(S.any (isN nm)))=false):=by show _=_;rw [HQK.out];rfl
  go_wp2
  go_ret
  exact ⟨by rw [HE.out];rfl,(fun h=>by rw [HE.out] at h;cases h),HB1.out.mono (Nat.le_of_lt HKL.out)⟩
set_option maxHeartbeats 1600000 in
set_option maxRecDepth 100000 in
theorem implRenB_any (lo hh lo' hh':Nat) (y tm:Int) (ba:Option Addr) (bn bc:Nat) (ga:Option Addr) (gn gc:Nat) (S:List X7) (G:List Int) (gid:Int) (nm:ByteArray) (w:World) (hl:S.length=bn) (hn:bn≤1048576) (hsb:Sb S) (hm:Bs lo hh w ba S) (hm0:ba=none→bc=0) (hgl:G.length=gn) (hgn:gn≤1048576) (hs:Is lo' hh' w ga G) (hg0:ga=none→gc=0) (hnm:nm.size≤1048576)
  (ok2:Bool) (h2:(sOk y tm S G&&((chB S gid (rnK nm S) (rnF y tm nm)).1&&sOk y (tm+1) ((chB S gid (rnK nm S) (rnF y tm nm)).2) (G)))=ok2) :
  Calls Tryz.prog 11 #[.agg #[.int .i64 y,.int .i64 tm,.slice ba bn bc,.slice ga gn gc],.int .i64 gid,.string nm] w fun e w'=>∃ bv gv,e=.returned (.tuple #[.agg #[.int .i64 y,.int .i64 (pik ok2 (tm+1) tm),bv,gv],.bool ok2])∧OwT w' w.heap.size bv gv (pik ok2 ((chB S gid (rnK nm S) (rnF y tm nm)).2) S) (pik ok2 (G) G)∧Below w.heap.size w w':=by
 obtain ⟨W0,hW0⟩:∃ W0,(((w.alloc (.cells #[.int .i64 y,.int .i64 tm,.slice ba bn bc,.slice ga gn gc] 27)).alloc (.cells #[.int .i64 gid] 3)).alloc (.cells #[.string nm] 9)).alloc (.cells #[.int .i64 0,.int .i64 0,.slice none 0 0,.slice none 0 0] 27)=W0:=⟨_,rfl⟩
 obtain ⟨a0,c1,c2,r0,b0,s0⟩:=store_caps2 w _ _ _ _ _ _ _ _ _ _ _ _ _ _ W0 hW0
 have c0:=a0.cells
 have C1:=hid c1
 have C2:=hid c2
 have R0:=hid r0
 have B0:=hid b0
 have S0:=hid s0
 obtain ⟨S1,hS1⟩:∃ S1,(chB S gid (rnK nm S) (rnF y tm nm)).2=S1:=⟨_,rfl⟩
 obtain ⟨t1,ht1⟩:∃ t1,pik ok2 (tm+1) tm=t1:=⟨_,rfl⟩
 have HCC:Hid (Calls Tryz.prog 40 #[.agg #[.int .i64 y,.int .i64 tm,.slice ba bn bc,.slice ga gn gc],.func (.func 52) #[] #[.pointer (some ⟨w.heap.size+1,0,none⟩),.pointer (some ⟨w.heap.size+1+1,0,none⟩)]] W0 fun e w'=>∃ bv gv,e=.returned (.tuple #[.agg #[.int .i64 y,.int .i64 t1,bv,gv],.bool ok2])∧OwT w' W0.heap.size bv gv (pik ok2 S1 S) (pik ok2 G G)∧Below W0.heap.size W0 w'):=by
  rw [← ht1,← hS1]
  refine changed_any 52 _ _ (tm+1) ((chB S gid (rnK nm S) (rnF y tm nm)).2) (G) lo hh lo' hh' y tm ba bn bc ga gn gc S G W0 hl hn hsb (hm.later b0) hm0 hgl hgn (hs.later b0) hg0 (Go.Proofs.enters_of Tryz.func52 (by kernel_rfl) rfl) (fun hok W k bv gv hk hb hsx hot=>?_) (fun hok hok0=>?_) ok2 h2
  ·exact renOut_any k y tm bv gv S G gid nm (w.heap.size+1) (w.heap.size+1+1) W hsx hot (by omega) hsb (by omega) (sOk_tm hok) hnm (by have:=S0.out;omega) ((hb.cell (p:=⟨w.heap.size+1,0,none⟩) (by have:=S0.out;show w.heap.size+1<W0.heap.size;omega)).trans C1.out) (by have:=S0.out;omega) ((hb.cell (p:=⟨w.heap.size+1+1,0,none⟩) (by have:=S0.out;show w.heap.size+1+1<W0.heap.size;omega)).trans C2.out)
  ·rcases fidx_cases (isG gid) S 0 with hneg | ⟨i,hi,hiz,_⟩
   ·rw [chB_no hneg]
    dsimp only
    exact ⟨hsb,by omega,by omega⟩
   ·rw [Nat.zero_add] at hiz
    rw [chB_at hiz hi rfl]
    dsimp only
    have hx:=hsb S[i] (List.getElem_mem hi)
    refine ⟨sb_set hsb i ⟨hnm,hx.2.1,hx.2.2.1,hx.2.2.2⟩,by rw [List.length_set];omega,by omega⟩
 clear a0 r0 b0 s0 hsb hm hm0 hgl hgn hs hg0 h2 c1 c2
 rw [hS1]
 go_enter Tryz.func11,Tryz.ntmps11
 go_wp2_with fail
 clear hW0
 refine HCC.out.mono ?_;rintro e w8 ⟨bv,gv,rfl,hot,hb8⟩
 obtain ⟨a8,c8,a9,c9,hv8,hv9⟩:=hot.shape
 obtain ⟨n8,hn8⟩:∃ n8,(pik ok2 S1 S).length=n8:=⟨_,rfl⟩
 obtain ⟨n9,hn9⟩:∃ n9,(pik ok2 G G).length=n9:=⟨_,rfl⟩
 rw [hn8] at hv8
 rw [hn9] at hv9
 subst hv8
 subst hv9
 have r8:=R0.out.later hb8
 have q1:=r8.cells
 have q2:=r8.loose
 have R8:=hid r8
 have O8:=hid hot
 have B8:=hid (btr B0.out hb8)
 have HT:=hid ht1
 clear r8 hot hb8 hn8 hn9 HCC ht1 hS1
 go_wp2
 have e2:=put4_grown w8 (w.heap.size+1+1+1) y t1 (.slice a8 n8 c8) (.slice a9 n9 c9)
 have d1:=(R8.out.put4 y t1 (.slice a8 n8 c8) (.slice a9 n9 c9)).cells
 unfold put4 at d1 e2
 have hs0:=S0.out
 refine bodyPost_ret (v:=.tuple #[.agg #[.int .i64 y,.int .i64 t1,.slice a8 n8 c8,.slice a9 n9 c9],.bool ok2]) (by simp [results,Tryz.results11,go_sem,d1]) rfl ⟨_,_,by rw [HT.out],?_,?_⟩
 ·exact (O8.out.grown e2 (by omega)).base (by omega)
 ·exact B8.out.trans (below_of_grown e2 (by omega) B8.out.size)
set_option maxHeartbeats 1600000 in
set_option maxRecDepth 100000 in
theorem implDropB_any (lo hh lo' hh':Nat) (y tm:Int) (ba:Option Addr) (bn bc:Nat) (ga:Option Addr) (gn gc:Nat) (S:List X7) (G:List Int) (gid:Int) (w:World) (hl:S.length=bn) (hn:bn≤1048576) (hsb:Sb S) (hm:Bs lo hh w ba S) (hm0:ba=none→bc=0) (hgl:G.length=gn) (hgn:gn≤1048576) (hs:Is lo' hh' w ga G) (hg0:ga=none→gc=0)
  (ok2:Bool) (h2:(sOk y tm S G&&(dbO S gid&&sOk y (tm) (dbS S gid) (pin gid G)))=ok2) :
  Calls Tryz.prog 12 #[.agg #[.int .i64 y,.int .i64 tm,.slice ba bn bc,.slice ga gn gc],.int .i64 gid] w fun e w'=>∃ bv gv,e=.returned (.tuple #[.agg #[.int .i64 y,.int .i64 (pik ok2 (tm) tm),bv,gv],.bool ok2])∧OwT w' w.heap.size bv gv (pik ok2 (dbS S gid) S) (pik ok2 (pin gid G) G)∧Below w.heap.size w w':=by
 obtain ⟨W0,hW0⟩:∃ W0,((w.alloc (.cells #[.int .i64 y,.int .i64 tm,.slice ba bn bc,.slice ga gn gc] 27)).alloc (.cells #[.int .i64 gid] 3)).alloc (.cells #[.int .i64 0,.int .i64 0,.slice none 0 0,.slice none 0 0] 27)=W0:=⟨_,rfl⟩
 obtain ⟨a0,c1,r0,b0,s0⟩:=store_caps1 w _ _ _ _ _ _ _ _ _ _ _ _ W0 hW0
 have c0:=a0.cells
 have C1:=hid c1
 have R0:=hid r0
 have B0:=hid b0
 have S0:=hid s0
 obtain ⟨S1,hS1⟩:∃ S1,dbS S gid=S1:=⟨_,rfl⟩
 obtain ⟨G1,hG1⟩:∃ G1,pin gid G=G1:=⟨_,rfl⟩
 obtain ⟨t1,ht1⟩:∃ t1,pik ok2 (tm) tm=t1:=⟨_,rfl⟩
 have HCC:Hid (Calls Tryz.prog 40 #[.agg #[.int .i64 y,.int .i64 tm,.slice ba bn bc,.slice ga gn gc],.func (.func 54) #[] #[.pointer (some ⟨w.heap.size+1,0,none⟩)]] W0 fun e w'=>∃ bv gv,e=.returned (.tuple #[.agg #[.int .i64 y,.int .i64 t1,bv,gv],.bool ok2])∧OwT w' W0.heap.size bv gv (pik ok2 S1 S) (pik ok2 G1 G)∧Below W0.heap.size W0 w'):=by
  rw [← ht1,← hS1,← hG1]
  refine changed_any 54 _ _ (tm) (dbS S gid) (pin gid G) lo hh lo' hh' y tm ba bn bc ga gn gc S G W0 hl hn hsb (hm.later b0) hm0 hgl hgn (hs.later b0) hg0 (Go.Proofs.enters_of Tryz.func54 (by kernel_rfl) rfl) (fun hok W k bv gv hk hb hsx hot=>?_) (fun hok hok0=>?_) ok2 h2
  ·exact dropOutB_any k y tm bv gv S G gid (w.heap.size+1) W hsx hot (by omega) hsb (by omega) (sOk_gone hok).1 (fun x hx hxg z hz hzg=>by
       obtain ⟨i,hi,rfl⟩:=List.mem_iff_getElem.1 hx
       have h1:=(stp7_all (sOk_all hok).2.2.1 hi).2.2.2.1
       rw [hxg,← hzg,inl_iff.2 hz] at h1
       cases h1) (by have:=S0.out;omega) ((hb.cell (p:=⟨w.heap.size+1,0,none⟩) (by have:=S0.out;show w.heap.size+1<W0.heap.size;omega)).trans C1.out)
  ·have hg:=(sOk_gone hok).2
   have hp:=pin_len gid G
   refine ⟨?_,?_,by omega⟩
   ·intro x hx
    unfold dbS at hx
    split at hx
    ·rcases List.mem_append.1 hx with hx | hx
     ·exact hsb x (List.mem_of_mem_take hx)
     ·exact hsb x (List.mem_of_mem_drop hx)
    ·exact hsb x hx
   ·unfold dbS
    split
    ·rw [List.length_append,List.length_take,List.length_drop];omega
    ·omega
 clear a0 r0 b0 s0 hsb hm hm0 hgl hgn hs hg0 h2 c1
 rw [hS1,hG1]
 go_enter Tryz.func12,Tryz.ntmps12
 go_wp2_with fail
 clear hW0
 refine HCC.out.mono ?_;rintro e w8 ⟨bv,gv,rfl,hot,hb8⟩
 obtain ⟨a8,c8,a9,c9,hv8,hv9⟩:=hot.shape
 obtain ⟨n8,hn8⟩:∃ n8,(pik ok2 S1 S).length=n8:=⟨_,rfl⟩
 obtain ⟨n9,hn9⟩:∃ n9,(pik ok2 G1 G).length=n9:=⟨_,rfl⟩
 rw [hn8] at hv8
 rw [hn9] at hv9
 subst hv8
 subst hv9
 have r8:=R0.out.later hb8
 have q1:=r8.cells
 have q2:=r8.loose
 have R8:=hid r8
 have O8:=hid hot
 have B8:=hid (btr B0.out hb8)
 have HT:=hid ht1
 clear r8 hot hb8 hn8 hn9 HCC ht1 hS1 hG1
 go_wp2
 have e2:=put4_grown w8 (w.heap.size+1+1) y t1 (.slice a8 n8 c8) (.slice a9 n9 c9)
 have d1:=(R8.out.put4 y t1 (.slice a8 n8 c8) (.slice a9 n9 c9)).cells
 unfold put4 at d1 e2
 have hs0:=S0.out
 refine bodyPost_ret (v:=.tuple #[.agg #[.int .i64 y,.int .i64 t1,.slice a8 n8 c8,.slice a9 n9 c9],.bool ok2]) (by simp [results,Tryz.results12,go_sem,d1]) rfl ⟨_,_,by rw [HT.out],?_,?_⟩
 ·exact (O8.out.grown e2 (by omega)).base (by omega)
 ·exact B8.out.trans (below_of_grown e2 (by omega) B8.out.size)
set_option maxHeartbeats 1600000 in
set_option maxRecDepth 100000 in
theorem implMakeB_any (lo hh lo' hh':Nat) (y tm:Int) (ba:Option Addr) (bn bc:Nat) (ga:Option Addr) (gn gc:Nat) (S:List X7) (G:List Int) (gid:Int) (nm:ByteArray) (w:World) (hl:S.length=bn) (hn:bn≤1048576) (hsb:Sb S) (hm:Bs lo hh w ba S) (hm0:ba=none→bc=0) (hgl:G.length=gn) (hgn:gn≤1048576) (hs:Is lo' hh' w ga G) (hg0:ga=none→gc=0) (hnm:nm.size≤1048576)
  (ok2:Bool) (h2:(sOk y tm S G&&((!kno gid S G&&!(S.any (isN nm)))&&sOk y (tm+1) (insX (gid,nm,tm+1,y,1,[],[]) S) (G)))=ok2) :
  Calls Tryz.prog 8 #[.agg #[.int .i64 y,.int .i64 tm,.slice ba bn bc,.slice ga gn gc],.int .i64 gid,.string nm] w fun e w'=>∃ bv gv,e=.returned (.tuple #[.agg #[.int .i64 y,.int .i64 (pik ok2 (tm+1) tm),bv,gv],.bool ok2])∧OwT w' w.heap.size bv gv (pik ok2 (insX (gid,nm,tm+1,y,1,[],[]) S) S) (pik ok2 (G) G)∧Below w.heap.size w w':=by
 obtain ⟨W0,hW0⟩:∃ W0,(((w.alloc (.cells #[.int .i64 y,.int .i64 tm,.slice ba bn bc,.slice ga gn gc] 27)).alloc (.cells #[.int .i64 gid] 3)).alloc (.cells #[.string nm] 9)).alloc (.cells #[.int .i64 0,.int .i64 0,.slice none 0 0,.slice none 0 0] 27)=W0:=⟨_,rfl⟩
 obtain ⟨a0,c1,c2,r0,b0,s0⟩:=store_caps2 w _ _ _ _ _ _ _ _ _ _ _ _ _ _ W0 hW0
 have c0:=a0.cells
 have C1:=hid c1
 have C2:=hid c2
 have R0:=hid r0
 have B0:=hid b0
 have S0:=hid s0
 obtain ⟨S1,hS1⟩:∃ S1,insX (gid,nm,tm+1,y,1,[],[]) S=S1:=⟨_,rfl⟩
 obtain ⟨t1,ht1⟩:∃ t1,pik ok2 (tm+1) tm=t1:=⟨_,rfl⟩
 have HCC:Hid (Calls Tryz.prog 40 #[.agg #[.int .i64 y,.int .i64 tm,.slice ba bn bc,.slice ga gn gc],.func (.func 41) #[] #[.pointer (some ⟨w.heap.size+1,0,none⟩),.pointer (some ⟨w.heap.size+1+1,0,none⟩)]] W0 fun e w'=>∃ bv gv,e=.returned (.tuple #[.agg #[.int .i64 y,.int .i64 t1,bv,gv],.bool ok2])∧OwT w' W0.heap.size bv gv (pik ok2 S1 S) (pik ok2 G G)∧Below W0.heap.size W0 w'):=by
  rw [← ht1,← hS1]
  refine changed_any 41 _ _ (tm+1) (insX (gid,nm,tm+1,y,1,[],[]) S) (G) lo hh lo' hh' y tm ba bn bc ga gn gc S G W0 hl hn hsb (hm.later b0) hm0 hgl hgn (hs.later b0) hg0 (Go.Proofs.enters_of Tryz.func41 (by kernel_rfl) rfl) (fun hok W k bv gv hk hb hsx hot=>?_) (fun hok hok0=>?_) ok2 h2
  ·exact makeOut_any k y tm bv gv S G gid nm (w.heap.size+1) (w.heap.size+1+1) W hsx hot (by have:=(sOk_all hok).1;omega) hsb (by omega) (sOk_tm hok) hnm (sOk_pw hok) (by have:=S0.out;omega) ((hb.cell (p:=⟨w.heap.size+1,0,none⟩) (by have:=S0.out;show w.heap.size+1<W0.heap.size;omega)).trans C1.out) (by have:=S0.out;omega) ((hb.cell (p:=⟨w.heap.size+1+1,0,none⟩) (by have:=S0.out;show w.heap.size+1+1<W0.heap.size;omega)).trans C2.out)
  ·have h5:=(sOk_all hok).1
   refine ⟨?_,?_,by omega⟩
   ·intro x hx
    unfold insX at hx
    rcases List.mem_append.1 hx with hx | hx
    ·exact hsb x (List.mem_of_mem_take hx)
    ·rcases List.mem_cons.1 hx with rfl | hx
     ·exact ⟨hnm,by simp,(fun m hm=>by cases hm),by simp⟩
     ·exact hsb x (List.mem_of_mem_drop hx)
   ·unfold insX
    rw [List.length_append,List.length_cons,List.length_take,List.length_drop]
    omega
 clear a0 r0 b0 s0 hsb hm hm0 hgl hgn hs hg0 h2 c1 c2
 rw [hS1]
 go_enter Tryz.func8,Tryz.ntmps8
 go_wp2_with fail
 clear hW0
 refine HCC.out.mono ?_;rintro e w8 ⟨bv,gv,rfl,hot,hb8⟩
 obtain ⟨a8,c8,a9,c9,hv8,hv9⟩:=hot.shape
 obtain ⟨n8,hn8⟩:∃ n8,(pik ok2 S1 S).length=n8:=⟨_,rfl⟩
 obtain ⟨n9,hn9⟩:∃ n9,(pik ok2 G G).length=n9:=⟨_,rfl⟩
 rw [hn8] at hv8
 rw [hn9] at hv9
 subst hv8
 subst hv9
 have r8:=R0.out.later hb8
 have q1:=r8.cells
 have q2:=r8.loose
 have R8:=hid r8
 have O8:=hid hot
 have B8:=hid (btr B0.out hb8)
 have HT:=hid ht1
 clear r8 hot hb8 hn8 hn9 HCC ht1 hS1
 go_wp2
 have e2:=put4_grown w8 (w.heap.size+1+1+1) y t1 (.slice a8 n8 c8) (.slice a9 n9 c9)
 have d1:=(R8.out.put4 y t1 (.slice a8 n8 c8) (.slice a9 n9 c9)).cells
 unfold put4 at d1 e2
 have hs0:=S0.out
 refine bodyPost_ret (v:=.tuple #[.agg #[.int .i64 y,.int .i64 t1,.slice a8 n8 c8,.slice a9 n9 c9],.bool ok2]) (by simp [results,Tryz.results8,go_sem,d1]) rfl ⟨_,_,by rw [HT.out],?_,?_⟩
 ·exact (O8.out.grown e2 (by omega)).base (by omega)
 ·exact B8.out.trans (below_of_grown e2 (by omega) B8.out.size)
end Go.Proofs.YtkbecgcbheopnaaGreat
