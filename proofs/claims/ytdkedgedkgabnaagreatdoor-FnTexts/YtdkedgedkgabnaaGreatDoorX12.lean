/- Sat, Mj. -/
import Derived.Test.YtdkedgedkgabnaaGreatDoorX11
namespace Go.Proofs.YtdkedgedkgabnaaGreatDoor
open Go.RowKit Go.ChangeMaps
set_option maxHeartbeats 16000000
set_option maxRecDepth 100000
def fidx {α:Type} (p:α→Bool):List α→Nat→Int
 | [],_=>-1
 | x::S,i=>if p x=true then (i:Int) else fidx p S (i+1)
theorem fidx_here {α:Type} {p:α→Bool} {S:List α} {i:Nat} (h:i<S.length) (e:p S[i]=true):fidx p (S.drop i) i=i:=by
 rw [List.drop_eq_getElem_cons h,fidx,if_pos e]
theorem fidx_on {α:Type} {p:α→Bool} {S:List α} {i:Nat} (h:i<S.length) (e:p S[i]=false):fidx p (S.drop i) i=fidx p (S.drop (i+1)) (i+1):=by
 rw [List.drop_eq_getElem_cons h,fidx,if_neg (by rw [e];decide)]
theorem fidx_any {α:Type} (p:α→Bool) (S:List α) (k:Nat):decide (0≤fidx p S k)=S.any p:=by
 induction S generalizing k with
 | nil=>rfl
 | cons x S ih =>
  rw [fidx,List.any_cons]
  cases hp:p x with
  | true=>simp
  | false=>rw [if_neg (by decide),ih (k+1)];simp
def Sb (S:List X7):Prop:=∀ x∈S,x.2.1.size≤1048576∧x.2.2.2.2.2.1.length≤1048576∧Sm x.2.2.2.2.2.1∧x.2.2.2.2.2.2.length≤1048576
def isG (g:Int) (x:X7):Bool:=decide (x.1=g)
def isN (n:ByteArray) (x:X7):Bool:=decide (x.2.1=n)
theorem specBoxAt_any (lo hi:Nat) (y tm:Int) (ba:Option Addr) (bn bc:Nat) (gv:Value) (S:List X7) (x:Int) (w:World) (hl:S.length=bn) (hn:bn≤1048576) (hm:Bs lo hi w ba S) :
  Calls Tryz.prog 173 #[.agg #[.int .i64 y,.int .i64 tm,.slice ba bn bc,gv],.int .i64 x] w fun e w'=>e=.returned (.int .i64 (fidx (isG x) S 0))∧Below w.heap.size w w':=by
 obtain ⟨W0,hW0⟩:∃ W0,w.alloc (.cells #[.int .i64 y,.int .i64 tm,.slice ba bn bc,gv] 27)=W0:=⟨_,rfl⟩
 have a0:Sx W0 w.heap.size 27 y tm (.slice ba bn bc) gv:=by subst hW0;exact Sx.new w _ y tm _ _
 have b0:Below w.heap.size w W0:=by subst hW0;exact bpush (bre _) _
 have c0:=a0.cells;have HR:=hid (hm.later b0);have B0:=hid b0;have HL:=hid hl;clear a0 b0 hm hl
 go_enter Tryz.func173,Tryz.ntmps173
 go_wp2
 clear hW0
 go_loopw [5] (fun iv wr=>∃ (i:Nat),i≤bn∧iv=.int .i64 (i:Int)∧Hid (fidx (isG x) S 0=fidx (isG x) (S.drop i) i)∧wr=W0) (fun iv _=>bn - (intOf iv).toNat)
 case atStart=>exact ⟨0,Nat.zero_le _,rfl,rfl,rfl⟩
 case round =>
  obtain ⟨i,hi,rfl,HQ,hw⟩:=hrel;subst hw
  by_cases hlt:i<bn
  ·have hil:i<S.length:=by rw [HL.out];exact hlt
   obtain ⟨k,o,ma,mc,ga,gc,rfl,hk,c,_⟩:=HR.out.at hil;obtain ⟨z,hz⟩:∃ z,S[i].1=z:=⟨_,rfl⟩;have c:=c.1;rw [hz] at c
   have hI:(0:Int)≤(i:Int)∧(i:Int)<(bn:Int):=by omega
   by_cases hxy:z=x
   ·have HE:Hid (fidx (isG x) S 0=i):=by show _=_;rw [HQ.out,fidx_here hil (by unfold isG;rw [hz,hxy];simp)]
    subst hxy;clear hz
    go_wp2
    go_ret
    exact ⟨by rw [HE.out];rfl,B0.out⟩
   have HE:Hid (fidx (isG x) S 0=fidx (isG x) (S.drop (i+1)) (i+1)):=by show _=_;rw [HQ.out,fidx_on hil (by unfold isG;rw [hz];simp [hxy])]
   have hxy':(z == x)=false:=by simp [hxy]
   clear hz hxy
   go_wp2
   go_roundw
   case rel=>exact ⟨i+1,by omega,by go_num,HE,by first | rfl | trivial⟩
   case measure=>simp [intOf];omega
  have HE:Hid (fidx (isG x) S 0=-1):=by show _=_;rw [HQ.out,List.drop_of_length_le (by rw [HL.out];omega)];rfl
  go_wp2
  go_ret
  exact ⟨by rw [HE.out];rfl,B0.out⟩
theorem specBoxNamed_any (lo hi:Nat) (y tm:Int) (ba:Option Addr) (bn bc:Nat) (gv:Value) (S:List X7) (x:ByteArray) (w:World) (hl:S.length=bn) (hn:bn≤1048576) (hm:Bs lo hi w ba S) :
  Calls Tryz.prog 59 #[.agg #[.int .i64 y,.int .i64 tm,.slice ba bn bc,gv],.string x] w fun e w'=>e=.returned (.int .i64 (fidx (isN x) S 0))∧Below w.heap.size w w':=by
 obtain ⟨W0,hW0⟩:∃ W0,w.alloc (.cells #[.int .i64 y,.int .i64 tm,.slice ba bn bc,gv] 27)=W0:=⟨_,rfl⟩
 have a0:Sx W0 w.heap.size 27 y tm (.slice ba bn bc) gv:=by subst hW0;exact Sx.new w _ y tm _ _
 have b0:Below w.heap.size w W0:=by subst hW0;exact bpush (bre _) _
 have c0:=a0.cells;have HR:=hid (hm.later b0);have B0:=hid b0;have HL:=hid hl;clear a0 b0 hm hl
 go_enter Tryz.func59,Tryz.ntmps59
 go_wp2
 clear hW0
 go_loopw [5] (fun iv wr=>∃ (i:Nat),i≤bn∧iv=.int .i64 (i:Int)∧Hid (fidx (isN x) S 0=fidx (isN x) (S.drop i) i)∧wr=W0) (fun iv _=>bn - (intOf iv).toNat)
 case atStart=>exact ⟨0,Nat.zero_le _,rfl,rfl,rfl⟩
 case round =>
  obtain ⟨i,hi,rfl,HQ,hw⟩:=hrel;subst hw
  by_cases hlt:i<bn
  ·have hil:i<S.length:=by rw [HL.out];exact hlt
   obtain ⟨k,o,ma,mc,ga,gc,rfl,hk,c,_⟩:=HR.out.at hil;obtain ⟨z,hz⟩:∃ z,S[i].2.1=z:=⟨_,rfl⟩;have c:=c.2.1;rw [hz] at c
   have hI:(0:Int)≤(i:Int)∧(i:Int)<(bn:Int):=by omega
   by_cases hxy:z=x
   ·have HE:Hid (fidx (isN x) S 0=i):=by show _=_;rw [HQ.out,fidx_here hil (by unfold isN;rw [hz,hxy];simp)]
    subst hxy;clear hz
    go_wp2
    go_ret
    exact ⟨by rw [HE.out];rfl,B0.out⟩
   have HE:Hid (fidx (isN x) S 0=fidx (isN x) (S.drop (i+1)) (i+1)):=by show _=_;rw [HQ.out,fidx_on hil (by unfold isN;rw [hz];simp [hxy])]
   have hxy':(z.toList == x.toList)=false:=bytes_ne hxy;clear hz hxy
   go_wp2
   go_roundw
   case rel=>exact ⟨i+1,by omega,by go_num,HE,by first | rfl | trivial⟩
   case measure=>simp [intOf];omega
  have HE:Hid (fidx (isN x) S 0=-1):=by show _=_;rw [HQ.out,List.drop_of_length_le (by rw [HL.out];omega)];rfl
  go_wp2
  go_ret
  exact ⟨by rw [HE.out];rfl,B0.out⟩
theorem specNextStamp_any (y tm:Int) (bv gv:Value) (w:World) (ht:-9223372036854775808≤tm∧tm≤9223372036854775806) :
  Calls Tryz.prog 172 #[.agg #[.int .i64 y,.int .i64 tm,bv,gv]] w fun e w'=>e=.returned (.agg #[.int .i64 (tm+1),.int .i64 y])∧Below w.heap.size w w':=by
 obtain ⟨W0,hW0⟩:∃ W0,(w.alloc (.cells #[.int .i64 y,.int .i64 tm,bv,gv] 27)).alloc (.cells #[.int .i64 0,.int .i64 0] 35)=W0:=⟨_,rfl⟩
 have a0:Sx W0 w.heap.size 27 y tm bv gv:=by subst hW0;exact (Sx.new w _ y tm _ _).later (bpush (bre _) _)
 have a1:Sg W0 (w.heap.size+1) 35 0 0:=by
  have h:=Sg.new (w.alloc (.cells #[.int .i64 y,.int .i64 tm,bv,gv] 27)) 35 0 0
  have e:(w.alloc (.cells #[.int .i64 y,.int .i64 tm,bv,gv] 27)).heap.size=w.heap.size+1:=by simp
  rw [e,hW0] at h;exact h
 have b0:Below w.heap.size w W0:=by subst hW0;exact bpush (bpush (bre _) _) _
 have c0:=a0.cells;have c1:=a1.cells;have f1:=a1.loose;have A1:=hid a1;have B0:=hid b0;clear a0 a1 b0
 go_enter Tryz.func172,Tryz.ntmps172
 go_wp2
 have c3:=(A1.out.set' (t':=tm+1) (b':=y)).cells;exact bodyPost_ret (v:=stv (tm+1) y) (by simp [results,Tryz.results172,go_sem,c3]) rfl ⟨rfl,B0.out.trans (((Below.refl _ _).setCell (p:=⟨w.heap.size+1,0,none⟩) (by show w.heap.size≤w.heap.size+1;omega) _).setCell (p:=⟨w.heap.size+1,1,none⟩) (by show w.heap.size≤w.heap.size+1;omega) _)⟩
theorem specStoreNew_any (y:Int) (w:World) :
  Calls Tryz.prog 117 #[.int .i64 y] w fun e w'=>e=.returned (.agg #[.int .i64 y,.int .i64 0,.slice none 0 0,.slice none 0 0])∧Below w.heap.size w w':=by
 have a0:=Sx.new w 27 0 0 (.slice none 0 0) (.slice none 0 0);have A0:=hid a0;have c0:=a0.cells;have f0:=a0.loose;have hb:Below w.heap.size w (w.alloc (.cells #[.int .i64 0,.int .i64 0,.slice none 0 0,.slice none 0 0] 27)):=bpush (bre _) _;have B0:=hid hb;clear a0 hb
 go_enter Tryz.func117,Tryz.ntmps117
 go_wp2
 have d1:=(Sx.new w 27 y 0 (.slice none 0 0) (.slice none 0 0)).cells;exact bodyPost_ret (v:=.agg #[.int .i64 y,.int .i64 0,.slice none 0 0,.slice none 0 0]) (by simp [results,Tryz.results117,go_sem,d1]) rfl ⟨rfl,bpush (bre _) _⟩
theorem alr_at {nx:Int} {G:List Int} {L:List M4} (h:alr nx G L=true) {i:Nat} (hi:i<L.length):L[i].2.1<nx∧us L i<L[i].2.1∧inl L[i].1 G=false:=by
 unfold alr at h;have h1:=List.all_eq_true.1 h i (List.mem_range.2 hi);rw [stp_at hi (g:=L[i].1) (u:=L[i].2.1) (l:=L[i].2.2.1) (t:=L[i].2.2.2) rfl] at h1;simp only [Bool.and_eq_true,decide_eq_true_eq,Bool.not_eq_true'] at h1;exact ⟨h1.2.1,h1.2.2.1,h1.2.2.2⟩
theorem alr_asc {nx:Int} {G:List Int} {L:List M4} (h:alr nx G L=true):∀ (j i:Nat) (hj:j<L.length) (hij:i<j),L[i].2.1<L[j].2.1:=by
 intro j
 induction j with
 | zero=>intro i hj hij;omega
 | succ j ih =>
  intro i hj hij;have h1:=(alr_at h hj).2.1;rw [us_succ (by omega)] at h1
  by_cases e:i=j
  ·subst e;exact h1
  have:=ih i (by omega) (by omega)
  omega
theorem alr_upr {nx:Int} {G:List Int} {L:List M4} (h:alr nx G L=true):Upr L :=
 List.pairwise_iff_getElem.2 fun i j _ hj hij=>alr_asc h j i hj hij
theorem bx_parts {g:Int} {nm:ByteArray} {t b nx:Int} {L:List M4} {G:List Int} (h:bxOk g nm t b nx L G=true):L.length≤10∧(1≤nx∧nx≤10000)∧alr nx G L=true∧uq L=true∧G.length≤40∧asc 0 G=true:=by
 simp only [bxOk,Bool.and_eq_true,decide_eq_true_eq,bxm,gnOk] at h;obtain ⟨_,_,_,⟨h1,h2⟩,h3,⟨h5,h6⟩,h4⟩:=h;exact ⟨by omega,⟨h1,h2⟩,h4.1,h4.2,by omega,h5⟩
theorem mat_any (x:Int) (L:List M4) (k:Nat):decide (0≤mat x L k)=L.any (fun m=>decide (m.1=x)):=by
 induction L generalizing k with
 | nil=>simp [mat]
 | cons m L ih =>
  by_cases h:m.1=x
  ·simp only [mat,h,if_true,List.any_cons,decide_true,Bool.true_or]
   simp
  simp only [mat,h,if_false,List.any_cons,decide_false,Bool.false_or];exact ih _
def nwm (gid nx fl:Int) (tx:ByteArray) (st sb:Int):M4:=(gid,nx,fnew fl st sb,tx)
def flr (fl:Int):Bool:=decide (0≤fl)&&decide (fl≤7)
def amOk (g:Int) (nm:ByteArray) (t b nx:Int) (L:List M4) (G:List Int) (gid fl:Int) (tx:ByteArray) (st sb:Int):Bool :=
 bxOk g nm t b nx L G&&(!(L.any (fun m=>decide (m.1=gid)))&&(!(inl gid G)&&(flr fl&&bxOk g nm t b (nx+1) (L++[nwm gid nx fl tx st sb]) G)))
def amL (p:Bool) (L:List M4) (m:M4):List M4:=if p=true then L++[m] else L
def amN (p:Bool) (nx:Int):Int:=if p=true then nx+1 else nx
theorem sm_snoc {L:List M4} (h:Sm L) {gid nx fl:Int} {tx:ByteArray} {st sb:Int} (ht:tx.size≤1048576):Sm (L++[nwm gid nx fl tx st sb]):=by
 intro m hm
 rcases List.mem_append.1 hm with hm | hm
 ·exact h m hm
 simp at hm
 subst hm;exact ⟨by simp [nwm,fnew],ht⟩
theorem OwB.grown {W W':World} {B k:Nat} {mv gv:Value} {L:List M4} {G:List Int} (h:OwB W B mv gv L G) (hg:W.grownBy W' (some k)) (hk:k<B):OwB W' B mv gv L G:=by
 obtain ⟨Z,h1,h2,h3,h4⟩:=h;exact ⟨Z,h1,h2.grown hg hk,OwI.grown h3 hg hk,h4⟩
structure Stt (w W:World) (OB:Nat) (g:Int) (nm:ByteArray) (t b nx:Int) (m0 g0:Value) (st sb:Int) (mv gv:Value) (Z:List Z5) (G:List Int):Prop where
 box:Bx W w.heap.size 38 g nm t b nx m0 g0
 stm:Sg W (w.heap.size+1) 35 st sb
 ans:Bx W (w.heap.size+1+1) 38 0 ⟨#[]⟩ 0 0 0 (.slice none 0 0) (.slice none 0 0)
 out:Bx W OB 38 g nm t b nx mv gv
 ml:OwZ W (w.heap.size+1+1+1) mv Z
 gl:OwI W (w.heap.size+1+1+1) gv G
 bel:Below w.heap.size w W
theorem Stt.later {w W W':World} {OB:Nat} {g:Int} {nm:ByteArray} {t b nx:Int} {m0 g0:Value} {st sb:Int} {mv gv:Value} {Z:List Z5} {G:List Int} (h:Stt w W OB g nm t b nx m0 g0 st sb mv gv Z G) (hb:Below W.heap.size W W'):Stt w W' OB g nm t b nx m0 g0 st sb mv gv Z G :=
 ⟨h.box.later hb,h.stm.later hb,h.ans.later hb,h.out.later hb,h.ml.later hb,own_later h.gl hb,btr h.bel hb⟩
theorem box_stamp (w:World) (g:Int) (nm:ByteArray) (t b nx:Int) (m0 g0:Value) (st sb:Int) (W0:World)
  (h:((w.alloc (.cells #[.int .i64 g,.string nm,.int .i64 t,.int .i64 b,.int .i64 nx,m0,g0] 38)).alloc (.cells #[.int .i64 st,.int .i64 sb] 35)).alloc (.cells #[.int .i64 0,.string ⟨#[]⟩,.int .i64 0,.int .i64 0,.int .i64 0,.slice none 0 0,.slice none 0 0] 38)=W0) :
  Bx W0 w.heap.size 38 g nm t b nx m0 g0∧Sg W0 (w.heap.size+1) 35 st sb∧Bx W0 (w.heap.size+1+1) 38 0 ⟨#[]⟩ 0 0 0 (.slice none 0 0) (.slice none 0 0)∧Below w.heap.size w W0∧W0.heap.size=w.heap.size+1+1+1:=by
 subst h;refine ⟨(Bx.new w _ g nm t b nx m0 g0).later (bpush (bpush (bre _) _) _),Sg.later ?_ (bpush (bre _) _),?_,bpush (bpush (bpush (bre _) _) _) _,by simp⟩
 ·simpa using Sg.new (w.alloc (.cells #[.int .i64 g,.string nm,.int .i64 t,.int .i64 b,.int .i64 nx,m0,g0] 38)) 35 st sb
 simpa using Bx.new ((w.alloc (.cells #[.int .i64 g,.string nm,.int .i64 t,.int .i64 b,.int .i64 nx,m0,g0] 38)).alloc (.cells #[.int .i64 st,.int .i64 sb] 35)) 38 0 ⟨#[]⟩ 0 0 0 (.slice none 0 0) (.slice none 0 0)
theorem specAdd_any (lo hh lo' hh':Nat) (g:Int) (nm:ByteArray) (t b nx:Int) (ma:Option Addr) (mn mc:Nat) (ga:Option Addr) (gn gc:Nat) (L:List M4) (G:List Int) (gid fl:Int) (tx:ByteArray) (st sb:Int) (w:World) (hnm:nm.size≤1048576) (hl:L.length=mn) (hn:mn≤1048576) (hsm:Sm L) (hm:Ms lo hh w ma L) (hgl:G.length=gn) (hgn:gn≤1048576) (hs:Is lo' hh' w ga G) (hg0:ga=none→gc=0) (htx:tx.size≤1048576) :
  Calls Tryz.prog 131 #[.agg #[.int .i64 g,.string nm,.int .i64 t,.int .i64 b,.int .i64 nx,.slice ma mn mc,.slice ga gn gc],.int .i64 gid,.int .i64 fl,.string tx,.agg #[.int .i64 st,.int .i64 sb]] w fun e w' =>
   ∃ mv gv,e=.returned (.tuple #[.agg #[.int .i64 g,.string nm,.int .i64 t,.int .i64 b,.int .i64 (amN (amOk g nm t b nx L G gid fl tx st sb) nx),mv,gv],.bool (amOk g nm t b nx L G gid fl tx st sb)])∧OwB w' w.heap.size mv gv (amL (amOk g nm t b nx L G gid fl tx st sb) L (nwm gid nx fl tx st sb)) G∧Below w.heap.size w w':=by
 obtain ⟨p1,hp1,csp,_⟩:=box_l g nm t b nx mn gn L G hnm hl hn hsm hgl hgn;obtain ⟨mt,hmt⟩:∃ mt,mat gid L 0=mt:=⟨_,rfl⟩;obtain ⟨p3,hp3⟩:∃ p3,inl gid G=p3:=⟨_,rfl⟩;obtain ⟨p4,hp4,cp4⟩:=in_range fl 0 7
 have HX:Hid (amOk g nm t b nx L G gid fl tx st sb=(p1&&(!(decide (0≤mt))&&(!p3&&(p4&&bxOk g nm t b (nx+1) (L++[nwm gid nx fl tx st sb]) G))))):=by show _=_;rw [hp1.out,← hmt,mat_any,← hp3,hp4.out];rfl
 obtain ⟨W0,hW0⟩:∃ W0,((w.alloc (.cells #[.int .i64 g,.string nm,.int .i64 t,.int .i64 b,.int .i64 nx,.slice ma mn mc,.slice ga gn gc] 38)).alloc (.cells #[.int .i64 st,.int .i64 sb] 35)).alloc (.cells #[.int .i64 0,.string ⟨#[]⟩,.int .i64 0,.int .i64 0,.int .i64 0,.slice none 0 0,.slice none 0 0] 38)=W0:=⟨_,rfl⟩;obtain ⟨a0,a1,a2,b0,s0⟩:=box_stamp w g nm t b nx (.slice ma mn mc) (.slice ga gn gc) st sb W0 hW0;have c0:=a0.cells;have A0:=hid a0;have A1:=hid a1;have A2:=hid a2;have B0:=hid b0;have S0:=hid s0;have HP1:=hid hp1.out;have HMT:=hid hmt;have HP3:=hid hp3;have HL:=hid hl;have HN:=hid hn;have HSM:=hid hsm;have HR:=hid hm;have HGL:=hid hgl;have HGN:=hid hgn;have HIS:=hid hs;have HG0:=hid hg0;have HNM:=hid hnm;have HTX:=hid htx;clear a0 a1 a2 b0 s0 hp1 hmt hp3 hp4 hl hsm hm hgl hgn hs hg0 hnm htx hn
 go_enter Tryz.func131,Tryz.ntmps131
 go_wp2_with fail
 clear hW0;refine (l06Copy_any lo hh lo' hh' g nm t b nx ma mn mc ga gn gc L G W0 HL.out HN.out HSM.out (HR.out.later B0.out) HGL.out HGN.out (HIS.out.later B0.out) HG0.out).mono ?_;rintro e w1 ⟨mv,gv,rfl,how1,hb1⟩;obtain ⟨Z,hZ,hoz,hoi,hdj,hde⟩:=how1;obtain ⟨va,vc,rfl⟩:=hoz.shape;obtain ⟨ag,cg,hgv,_⟩:=hoi.shape;rw [HGL.out] at hgv;subst hgv;obtain ⟨OB,hOB⟩:∃ OB,w1.heap.size=OB:=⟨_,rfl⟩;obtain ⟨W2,hW2⟩:∃ W2,w1.alloc (.cells #[.int .i64 g,.string nm,.int .i64 t,.int .i64 b,.int .i64 nx,.slice va Z.length vc,.slice ag gn cg] 38)=W2:=⟨_,rfl⟩;have hs0:=S0.out
 have b2:Below w1.heap.size w1 W2:=by subst hW2;exact bpush (bre _) _
 have t2:Stt w W2 OB g nm t b nx (.slice ma mn mc) (.slice ga gn gc) st sb (.slice va Z.length vc) (.slice ag gn cg) Z G:=by
  refine ⟨(A0.out.later hb1).later b2,(A1.out.later hb1).later b2,(A2.out.later hb1).later b2,?_,(hoz.base (by omega)).later b2,own_later (own_base hoi (by omega)) b2,btr (btr B0.out hb1) b2⟩;rw [← hW2,← hOB];exact Bx.new w1 _ g nm t b nx _ _
 have HOBB:Hid (w.heap.size+1+1+1≤OB):=by show _≤_;rw [← hOB];have:=hb1.size;omega
 have HRO:Hid (∀ j,Value.ownBlock (.slice va Z.length vc)=some j→j≠OB):=fun j hj=>by have:=(hoz.row.lt j hj).2;omega
 have HEO:Hid (∀ z∈Z,∀ j,z.2.2.1.ownBlock=some j→j≠OB):=fun z hz j hj=>by have:=((hoz.each z hz).lt j hj).2;omega
 have HGO:Hid (∀ j,Value.ownBlock (.slice ag gn cg)=some j→j≠OB):=fun j hj=>by have:=(hoi.lt j hj).2;omega
 have HDJ:=hid hdj;have HDE:=hid hde;have HZL:=hid hZ;have T2:=hid t2;have k0:=t2.out.cells;have q1:=t2.ans.cells;have q2:=t2.ans.loose;have c0:=t2.box.cells;clear b2 t2 hoz hoi hdj hde hZ hb1 A0 A1 A2 B0 hs0
 go_wp2_with fail
 clear hW2;refine (csp.out lo hh lo' hh' ma mc ga gc W2 (HR.out.later T2.out.bel) (HIS.out.later T2.out.bel)).mono ?_;rintro e w3 ⟨rfl,hb3⟩;have T3:=hid (T2.out.later hb3);have c0:=T3.out.box.cells;have k0:=T3.out.out.cells;have q1:=T3.out.ans.cells;have q2:=T3.out.ans.loose;clear hb3 T2
 cases p1
 ·have HE:Hid (amOk g nm t b nx L G gid fl tx st sb=false):=by show _=_;rw [HX.out];rfl
  go_wp2
  have e2:=set7_grown w3 (w.heap.size+1+1) g nm t b nx (.slice va Z.length vc) (.slice ag gn cg);have d1:=(T3.out.ans.set7 g nm t b nx (.slice va Z.length vc) (.slice ag gn cg)).cells;unfold set7 at d1 e2;have hbs:=T3.out.bel.size;refine bodyPost_ret (v:=.tuple #[.agg #[.int .i64 g,.string nm,.int .i64 t,.int .i64 b,.int .i64 nx,.slice va Z.length vc,.slice ag gn cg],.bool false]) (by simp [results,Tryz.results131,go_sem,d1]) rfl ⟨_,_,by rw [HE.out];rfl,?_,?_⟩
  ·rw [HE.out]
   exact (OwB.grown ⟨Z,HZL.out,T3.out.ml,T3.out.gl,HDJ.out,HDE.out⟩ e2 (by omega)).base (by omega)
  exact T3.out.bel.trans (below_of_grown e2 (by omega) hbs)
 have HP1':=bx_parts HP1.out.symm;have HNX:=hid HP1'.2.1
 have HMN:Hid (mn≤10):=by show _≤_;rw [← HL.out];exact HP1'.1
 clear HP1'
 go_wp2_with fail
 refine (specMailAt_any lo hh g nm t b nx ma mn mc (.slice ga gn gc) L gid _ HL.out HN.out (HR.out.later T3.out.bel)).mono ?_;rintro e w4 ⟨rfl,hb4⟩;rw [HMT.out];have T4:=hid (T3.out.later hb4);have c0:=T4.out.box.cells;have k0:=T4.out.out.cells;have q1:=T4.out.ans.cells;have q2:=T4.out.ans.loose;clear hb4 T3
 by_cases hmt:0≤mt
 ·have HE:Hid (amOk g nm t b nx L G gid fl tx st sb=false):=by show _=_;rw [HX.out];simp [hmt]
  go_wp2
  have e2:=set7_grown w4 (w.heap.size+1+1) g nm t b nx (.slice va Z.length vc) (.slice ag gn cg);have d1:=(T4.out.ans.set7 g nm t b nx (.slice va Z.length vc) (.slice ag gn cg)).cells;unfold set7 at d1 e2;have hbs:=T4.out.bel.size;refine bodyPost_ret (v:=.tuple #[.agg #[.int .i64 g,.string nm,.int .i64 t,.int .i64 b,.int .i64 nx,.slice va Z.length vc,.slice ag gn cg],.bool false]) (by simp [results,Tryz.results131,go_sem,d1]) rfl ⟨_,_,by rw [HE.out];rfl,?_,?_⟩
  ·rw [HE.out]
   exact (OwB.grown ⟨Z,HZL.out,T4.out.ml,T4.out.gl,HDJ.out,HDE.out⟩ e2 (by omega)).base (by omega)
  exact T4.out.bel.trans (below_of_grown e2 (by omega) hbs)
 go_wp2_with fail
 refine (l06In_any lo' hh' ga gn gc G gid _ HGL.out HGN.out (HIS.out.later T4.out.bel)).mono ?_;rintro e w5 ⟨rfl,h5⟩;subst h5;rw [HP3.out]
 cases p3
 case true =>
  have HE:Hid (amOk g nm t b nx L G gid fl tx st sb=false):=by show _=_;rw [HX.out];simp
  go_wp2
  have e2:=set7_grown w5 (w.heap.size+1+1) g nm t b nx (.slice va Z.length vc) (.slice ag gn cg);have d1:=(T4.out.ans.set7 g nm t b nx (.slice va Z.length vc) (.slice ag gn cg)).cells;unfold set7 at d1 e2;have hbs:=T4.out.bel.size;refine bodyPost_ret (v:=.tuple #[.agg #[.int .i64 g,.string nm,.int .i64 t,.int .i64 b,.int .i64 nx,.slice va Z.length vc,.slice ag gn cg],.bool false]) (by simp [results,Tryz.results131,go_sem,d1]) rfl ⟨_,_,by rw [HE.out];rfl,?_,?_⟩
  ·rw [HE.out]
   exact (OwB.grown ⟨Z,HZL.out,T4.out.ml,T4.out.gl,HDJ.out,HDE.out⟩ e2 (by omega)).base (by omega)
  exact T4.out.bel.trans (below_of_grown e2 (by omega) hbs)
 go_wp2_with fail
 refine (cp4.out _).mono ?_;rintro e w6 ⟨rfl,h6⟩;subst h6
 cases p4
 ·have HE:Hid (amOk g nm t b nx L G gid fl tx st sb=false):=by show _=_;rw [HX.out];simp
  go_wp2
  have e2:=set7_grown w6 (w.heap.size+1+1) g nm t b nx (.slice va Z.length vc) (.slice ag gn cg);have d1:=(T4.out.ans.set7 g nm t b nx (.slice va Z.length vc) (.slice ag gn cg)).cells;unfold set7 at d1 e2;have hbs:=T4.out.bel.size;refine bodyPost_ret (v:=.tuple #[.agg #[.int .i64 g,.string nm,.int .i64 t,.int .i64 b,.int .i64 nx,.slice va Z.length vc,.slice ag gn cg],.bool false]) (by simp [results,Tryz.results131,go_sem,d1]) rfl ⟨_,_,by rw [HE.out];rfl,?_,?_⟩
  ·rw [HE.out]
   exact (OwB.grown ⟨Z,HZL.out,T4.out.ml,T4.out.gl,HDJ.out,HDE.out⟩ e2 (by omega)).base (by omega)
  exact T4.out.bel.trans (below_of_grown e2 (by omega) hbs)
 obtain ⟨p5,hp5,csp5,_⟩:=box_l g nm t b (nx+1) (L++[nwm gid nx fl tx st sb]).length gn (L++[nwm gid nx fl tx st sb]) G HNM.out rfl (by have h1:=HL.out;have h2:=HMN.out;simp;omega) (sm_snoc HSM.out HTX.out) HGL.out HGN.out
 have HX4:Hid (amOk g nm t b nx L G gid fl tx st sb=p5):=by show _=_;rw [HX.out,hp5.out];simp [hmt]
 have HZLN:Hid ((L++[nwm gid nx fl tx st sb]).length=Z.length+1):=by show _=_;have:=congrArg List.length HZL.out;simp at this ⊢;omega
 have HZLL:Hid (Z.length≤1048576):=by show _≤_;have h1:=congrArg List.length HZL.out;have h2:=HL.out;have h3:=HMN.out;simp at h1;omega
 have X6:=hid T4.out.out;have HOZ:=hid T4.out.ml;have HOI:=hid T4.out.gl
 have HBW:Hid (w.heap.size+1+1+1≤w6.heap.size):=by show _≤_;have h1:=HOBB.out;have h2:=X6.out.lt;omega
 have HWR:Hid (w.heap.size+1+1≤w6.heap.size):=by show _≤_;have h1:=HBW.out;omega
 have co:=k0.2.2.2.2.2.1;have HSS:Hid (∀ W,Below (w.heap.size+1+1) w6 W→(W.cell? ⟨w.heap.size,0,none⟩=some (.int .i64 g)∧W.cell? ⟨w.heap.size,1,none⟩=some (.string nm)∧W.cell? ⟨w.heap.size,2,none⟩=some (.int .i64 t)∧W.cell? ⟨w.heap.size,3,none⟩=some (.int .i64 b)∧W.cell? ⟨w.heap.size,4,none⟩=some (.int .i64 nx)∧W.cell? ⟨w.heap.size,5,none⟩=some (.slice ma mn mc)∧W.cell? ⟨w.heap.size,6,none⟩=some (.slice ga gn gc))∧(W.cell? ⟨w.heap.size+1,0,none⟩=some (.int .i64 st)∧W.cell? ⟨w.heap.size+1,1,none⟩=some (.int .i64 sb))):=fun W h=>⟨Bx.cells ((h.block w.heap.size (by omega)).trans T4.out.box),Sg.cells ((h.block (w.heap.size+1) (by omega)).trans T4.out.stm)⟩;have T6:=T4;clear hp5 k0 q1 q2 c0
 go_wp2_with fail
 refine wp_region_noPanic ?_;refine wp_region_held_drew (S:=(fun W=>(W.cell? ⟨w.heap.size,0,none⟩=some (.int .i64 g)∧W.cell? ⟨w.heap.size,1,none⟩=some (.string nm)∧W.cell? ⟨w.heap.size,2,none⟩=some (.int .i64 t)∧W.cell? ⟨w.heap.size,3,none⟩=some (.int .i64 b)∧W.cell? ⟨w.heap.size,4,none⟩=some (.int .i64 nx)∧W.cell? ⟨w.heap.size,5,none⟩=some (.slice ma mn mc)∧W.cell? ⟨w.heap.size,6,none⟩=some (.slice ga gn gc))∧(W.cell? ⟨w.heap.size+1,0,none⟩=some (.int .i64 st)∧W.cell? ⟨w.heap.size+1,1,none⟩=some (.int .i64 sb)))) (by kernel_rfl) (HSS.out _ (Below.drew (Below.refl _ _))) (fun hHeld=>?_);refine tk 0 ?_;refine tk 2 ?_;refine tk 3 ?_;refine tk 4 ?_;refine tk 5 ?_;refine tk 6 ?_;refine tk 8 ?_;clear hHeld;refine wpAnyH_ready (rs:=[1,7]) (by kernel_rfl) (by simp) ?_;refine rc (fun K hK=>?x3) ?y3
 case' x3 =>
  go_simp;refine hK.out _ _ (HSS.out _ (Below.drew (Below.refl _ _))) (fun hHeld=>?_);clear hK K;try simp only [Act.put,tq]
  clear hHeld;refine ry 7 (fun K hK=>?_);go_simp;refine (specFlagsNew_any fl st sb _).mono ?_;rintro e w7 ⟨v,rfl,how,hb7⟩;obtain ⟨a2,c2,hv2,_⟩:=Ow.shape how;rw [show (fnew fl st sb).length=3 from rfl] at hv2;subst hv2;have B7:=hid (show Below w6.heap.size w6 w7 from btr (bdr (bre _)) hb7);have HOW:=hid how;have o2:=(B7.out.cell (p:=⟨OB,5,none⟩) X6.out.lt).trans co;have o3:=((bpush (bre w7) (.cells #[.int .i64 gid,.int .i64 nx,.slice a2 3 c2,.string tx] 78)).cell (p:=⟨OB,5,none⟩) (Nat.lt_of_lt_of_le X6.out.lt B7.out.size)).trans o2;clear hb7 how
  go_wp2_with fail
  refine hK.out _ _ (HSS.out _ (B7.out.mono HWR.out)) (fun hHeld=>?_);clear hK K;try simp only [Act.put,tq]
  refine tk 9 ?_;clear hHeld;refine ry 10 (fun K hK=>?_);go_simp;refine hK.out _ _ (HSS.out _ ((B7.out.mono HWR.out).trans ((Below.refl _ _).alloc (Nat.le_trans HWR.out B7.out.size) _))) (fun hHeld=>?_);clear hK K;try simp only [Act.put,tq]
  clear hHeld;refine ry 11 (fun K hK=>?_);refine step_append_ml rfl (.tmp 37) (.tmp 46) rfl (w.heap.size+1+1+1) _ Z (by rfl) ((gid,nx,Value.slice a2 3 c2,fnew fl st sb,tx):Z5) (HOZ.out.later B7.out) (own_base HOW.out (by have h1:=HBW.out;show _≤w6.heap.size;omega)) (fun j hj hj'=>by have h1:=(HOZ.out.row.lt j hj).2;have h2:w6.heap.size≤j:=(HOW.out.lt j hj').1;omega) (fun y hy j hj hj'=>by have h1:=((HOZ.out.each y hy).lt j hj).2;have h2:w6.heap.size≤j:=(HOW.out.lt j hj').1;omega) (by rfl) HZLL.out (Nat.le_trans HBW.out B7.out.size) ?_;intro v8 w8 hown8 hb8 hg8 hl8;obtain ⟨a3,c3,hv3⟩:=hown8.shape;simp only [List.length_append,List.length_cons,List.length_nil,Nat.zero_add] at hv3;subst hv3;have B8:=hid (show Below (w.heap.size+1+1+1) w6 w8 from (B7.out.mono HBW.out).trans hb8);have x8:=(X6.out.later (btr B7.out (bpush (bre w7) _))).grown hg8 (fun e=>HRO.out OB e.symm rfl)
  have i8:OwI w8 (w.heap.size+1+1+1) (.slice ag gn cg) G:=World.ownsRow.kept (own_later HOI.out (btr B7.out (bpush (bre w7) _))) hg8 (by
    cases hgb:Value.ownBlock (.slice ag gn cg) with
    | none=>exact Or.inl rfl
    | some j=>exact Or.inr (fun e=>HDJ.out j hgb e.symm))
  have HO8:=hid hown8;have I8:=hid i8
  have HDV:Hid (Dj (.slice ag gn cg) (.slice a3 (Z.length+1) c3)):=fun j hj hj'=>by
   have h1:=(HOI.out.lt j hj).2
   rcases hl8 j hj' with h | h
   ·exact HDJ.out j hj h
   have h2:=B7.out.size
   omega
  have HDZ:Hid (∀ z∈Z++[((gid,nx,Value.slice a2 3 c2,fnew fl st sb,tx):Z5)],Dj (.slice ag gn cg) z.2.2.1):=fun z hz j hj hj'=>by
   rcases List.mem_append.1 hz with hz | hz
   ·exact HDE.out z hz j hj hj'
   simp at hz
   subst hz;have h1:=(HOI.out.lt j hj).2;have h2:w6.heap.size≤j:=(HOW.out.lt j hj').1
   omega
  have HOBV:Hid (∀ j,Value.ownBlock (.slice a3 (Z.length+1) c3)=some j→j≠OB):=fun j hj e=>by
   rcases hl8 j hj with h | h
   ·exact HRO.out j h e
   have h1:=X6.out.lt;have h2:=B7.out.size
   omega
  have HOBZ:Hid (∀ z∈Z++[((gid,nx,Value.slice a2 3 c2,fnew fl st sb,tx):Z5)],∀ j,z.2.2.1.ownBlock=some j→j≠OB):=fun z hz j hj e=>by
   rcases List.mem_append.1 hz with hz | hz
   ·exact HEO.out z hz j hj e
   simp at hz
   subst hz;have h1:=X6.out.lt;have h2:w6.heap.size≤j:=(HOW.out.lt j hj).1
   omega
  have k8:=x8.cells;have f8:=x8.loose;have X8:=hid x8;clear hown8 hb8 x8 i8 hg8 hl8;refine hK.out _ _ (HSS.out _ (B8.out.mono (by omega))) (fun hHeld=>?_);clear hK K;try simp only [Act.put,tq]
  refine tk 12 ?_;clear hHeld;refine ry 13 (fun K hK=>?_);go_simp;refine hK.out _ _ (HSS.out _ (B8.out.mono (by omega) |>.trans ((Below.refl _ _).setCell (p:=⟨OB,5,none⟩) (by show w.heap.size+1+1≤OB;have:=HOBB.out;omega) _))) (fun hHeld=>?_);clear hK K;try simp only [Act.put,tq]
  refine dn ?_
 case' y3 =>
  refine rl (fun K hK=>?_);go_simp;refine (specFlagsNew_any fl st sb _).mono ?_;rintro e w7 ⟨v,rfl,how,hb7⟩;obtain ⟨a2,c2,hv2,_⟩:=Ow.shape how;rw [show (fnew fl st sb).length=3 from rfl] at hv2;subst hv2;have B7:=hid (show Below w6.heap.size w6 w7 from btr (bdr (bre _)) hb7);have HOW:=hid how;have o2:=(B7.out.cell (p:=⟨OB,5,none⟩) X6.out.lt).trans co;have o3:=((bpush (bre w7) (.cells #[.int .i64 gid,.int .i64 nx,.slice a2 3 c2,.string tx] 78)).cell (p:=⟨OB,5,none⟩) (Nat.lt_of_lt_of_le X6.out.lt B7.out.size)).trans o2;clear hb7 how
  go_wp2_with fail
  refine hK.out _ _ (HSS.out _ (B7.out.mono HWR.out)) (fun hHeld=>?_);clear hK K;try simp only [Act.put,tq]
  refine tk 9 ?_;clear hHeld;refine wpAnyH_ready (rs:=[1,10]) (by kernel_rfl) (by simp) ?_;refine rc (fun K hK=>?x4) ?y4
  case' x4 =>
   go_simp;refine hK.out _ _ (HSS.out _ (B7.out.mono HWR.out)) (fun hHeld=>?_);clear hK K;try simp only [Act.put,tq]
   clear hHeld;refine ry 10 (fun K hK=>?_);go_simp;refine hK.out _ _ (HSS.out _ ((B7.out.mono HWR.out).trans ((Below.refl _ _).alloc (Nat.le_trans HWR.out B7.out.size) _))) (fun hHeld=>?_);clear hK K;try simp only [Act.put,tq]
   clear hHeld;refine ry 11 (fun K hK=>?_);refine step_append_ml rfl (.tmp 37) (.tmp 46) rfl (w.heap.size+1+1+1) _ Z (by rfl) ((gid,nx,Value.slice a2 3 c2,fnew fl st sb,tx):Z5) (HOZ.out.later B7.out) (own_base HOW.out (by have h1:=HBW.out;show _≤w6.heap.size;omega)) (fun j hj hj'=>by have h1:=(HOZ.out.row.lt j hj).2;have h2:w6.heap.size≤j:=(HOW.out.lt j hj').1;omega) (fun y hy j hj hj'=>by have h1:=((HOZ.out.each y hy).lt j hj).2;have h2:w6.heap.size≤j:=(HOW.out.lt j hj').1;omega) (by rfl) HZLL.out (Nat.le_trans HBW.out B7.out.size) ?_;intro v8 w8 hown8 hb8 hg8 hl8;obtain ⟨a3,c3,hv3⟩:=hown8.shape;simp only [List.length_append,List.length_cons,List.length_nil,Nat.zero_add] at hv3;subst hv3;have B8:=hid (show Below (w.heap.size+1+1+1) w6 w8 from (B7.out.mono HBW.out).trans hb8);have x8:=(X6.out.later (btr B7.out (bpush (bre w7) _))).grown hg8 (fun e=>HRO.out OB e.symm rfl)
   have i8:OwI w8 (w.heap.size+1+1+1) (.slice ag gn cg) G:=World.ownsRow.kept (own_later HOI.out (btr B7.out (bpush (bre w7) _))) hg8 (by
     cases hgb:Value.ownBlock (.slice ag gn cg) with
     | none=>exact Or.inl rfl
     | some j=>exact Or.inr (fun e=>HDJ.out j hgb e.symm))
   have HO8:=hid hown8;have I8:=hid i8
   have HDV:Hid (Dj (.slice ag gn cg) (.slice a3 (Z.length+1) c3)):=fun j hj hj'=>by
    have h1:=(HOI.out.lt j hj).2
    rcases hl8 j hj' with h | h
    ·exact HDJ.out j hj h
    have h2:=B7.out.size
    omega
   have HDZ:Hid (∀ z∈Z++[((gid,nx,Value.slice a2 3 c2,fnew fl st sb,tx):Z5)],Dj (.slice ag gn cg) z.2.2.1):=fun z hz j hj hj'=>by
    rcases List.mem_append.1 hz with hz | hz
    ·exact HDE.out z hz j hj hj'
    simp at hz
    subst hz;have h1:=(HOI.out.lt j hj).2;have h2:w6.heap.size≤j:=(HOW.out.lt j hj').1
    omega
   have HOBV:Hid (∀ j,Value.ownBlock (.slice a3 (Z.length+1) c3)=some j→j≠OB):=fun j hj e=>by
    rcases hl8 j hj with h | h
    ·exact HRO.out j h e
    have h1:=X6.out.lt;have h2:=B7.out.size
    omega
   have HOBZ:Hid (∀ z∈Z++[((gid,nx,Value.slice a2 3 c2,fnew fl st sb,tx):Z5)],∀ j,z.2.2.1.ownBlock=some j→j≠OB):=fun z hz j hj e=>by
    rcases List.mem_append.1 hz with hz | hz
    ·exact HEO.out z hz j hj e
    simp at hz
    subst hz;have h1:=X6.out.lt;have h2:w6.heap.size≤j:=(HOW.out.lt j hj).1
    omega
   have k8:=x8.cells;have f8:=x8.loose;have X8:=hid x8;clear hown8 hb8 x8 i8 hg8 hl8;refine hK.out _ _ (HSS.out _ (B8.out.mono (by omega))) (fun hHeld=>?_);clear hK K;try simp only [Act.put,tq]
   refine tk 12 ?_;clear hHeld;refine ry 13 (fun K hK=>?_);go_simp;refine hK.out _ _ (HSS.out _ (B8.out.mono (by omega) |>.trans ((Below.refl _ _).setCell (p:=⟨OB,5,none⟩) (by show w.heap.size+1+1≤OB;have:=HOBB.out;omega) _))) (fun hHeld=>?_);clear hK K;try simp only [Act.put,tq]
   refine dn ?_
  case' y4 =>
   refine rl (fun K hK=>?_);go_simp;refine hK.out _ _ (HSS.out _ ((B7.out.mono HWR.out).trans ((Below.refl _ _).alloc (Nat.le_trans HWR.out B7.out.size) _))) (fun hHeld=>?_);clear hK K;try simp only [Act.put,tq]
   clear hHeld;refine ry 1 (fun K hK=>?_);go_simp;refine hK.out _ _ (HSS.out _ ((B7.out.mono HWR.out).trans ((Below.refl _ _).alloc (Nat.le_trans HWR.out B7.out.size) _))) (fun hHeld=>?_);clear hK K;try simp only [Act.put,tq]
   clear hHeld;refine ry 11 (fun K hK=>?_);refine step_append_ml rfl (.tmp 37) (.tmp 46) rfl (w.heap.size+1+1+1) _ Z (by rfl) ((gid,nx,Value.slice a2 3 c2,fnew fl st sb,tx):Z5) (HOZ.out.later B7.out) (own_base HOW.out (by have h1:=HBW.out;show _≤w6.heap.size;omega)) (fun j hj hj'=>by have h1:=(HOZ.out.row.lt j hj).2;have h2:w6.heap.size≤j:=(HOW.out.lt j hj').1;omega) (fun y hy j hj hj'=>by have h1:=((HOZ.out.each y hy).lt j hj).2;have h2:w6.heap.size≤j:=(HOW.out.lt j hj').1;omega) (by rfl) HZLL.out (Nat.le_trans HBW.out B7.out.size) ?_;intro v8 w8 hown8 hb8 hg8 hl8;obtain ⟨a3,c3,hv3⟩:=hown8.shape;simp only [List.length_append,List.length_cons,List.length_nil,Nat.zero_add] at hv3;subst hv3;have B8:=hid (show Below (w.heap.size+1+1+1) w6 w8 from (B7.out.mono HBW.out).trans hb8);have x8:=(X6.out.later (btr B7.out (bpush (bre w7) _))).grown hg8 (fun e=>HRO.out OB e.symm rfl)
   have i8:OwI w8 (w.heap.size+1+1+1) (.slice ag gn cg) G:=World.ownsRow.kept (own_later HOI.out (btr B7.out (bpush (bre w7) _))) hg8 (by
     cases hgb:Value.ownBlock (.slice ag gn cg) with
     | none=>exact Or.inl rfl
     | some j=>exact Or.inr (fun e=>HDJ.out j hgb e.symm))
   have HO8:=hid hown8;have I8:=hid i8
   have HDV:Hid (Dj (.slice ag gn cg) (.slice a3 (Z.length+1) c3)):=fun j hj hj'=>by
    have h1:=(HOI.out.lt j hj).2
    rcases hl8 j hj' with h | h
    ·exact HDJ.out j hj h
    have h2:=B7.out.size
    omega
   have HDZ:Hid (∀ z∈Z++[((gid,nx,Value.slice a2 3 c2,fnew fl st sb,tx):Z5)],Dj (.slice ag gn cg) z.2.2.1):=fun z hz j hj hj'=>by
    rcases List.mem_append.1 hz with hz | hz
    ·exact HDE.out z hz j hj hj'
    simp at hz
    subst hz;have h1:=(HOI.out.lt j hj).2;have h2:w6.heap.size≤j:=(HOW.out.lt j hj').1
    omega
   have HOBV:Hid (∀ j,Value.ownBlock (.slice a3 (Z.length+1) c3)=some j→j≠OB):=fun j hj e=>by
    rcases hl8 j hj with h | h
    ·exact HRO.out j h e
    have h1:=X6.out.lt;have h2:=B7.out.size
    omega
   have HOBZ:Hid (∀ z∈Z++[((gid,nx,Value.slice a2 3 c2,fnew fl st sb,tx):Z5)],∀ j,z.2.2.1.ownBlock=some j→j≠OB):=fun z hz j hj e=>by
    rcases List.mem_append.1 hz with hz | hz
    ·exact HEO.out z hz j hj e
    simp at hz
    subst hz;have h1:=X6.out.lt;have h2:w6.heap.size≤j:=(HOW.out.lt j hj).1
    omega
   have k8:=x8.cells;have f8:=x8.loose;have X8:=hid x8;clear hown8 hb8 x8 i8 hg8 hl8;refine hK.out _ _ (HSS.out _ (B8.out.mono (by omega))) (fun hHeld=>?_);clear hK K;try simp only [Act.put,tq]
   refine tk 12 ?_;clear hHeld;refine ry 13 (fun K hK=>?_);go_simp;refine hK.out _ _ (HSS.out _ (B8.out.mono (by omega) |>.trans ((Below.refl _ _).setCell (p:=⟨OB,5,none⟩) (by show w.heap.size+1+1≤OB;have:=HOBB.out;omega) _))) (fun hHeld=>?_);clear hK K;try simp only [Act.put,tq]
   refine dn ?_
 all_goals
  obtain ⟨W9,hW9⟩:∃ W9,w8.setCell ⟨OB,5,none⟩ (.slice a3 (Z.length+1) c3)=W9:=⟨_,rfl⟩
  have g9:w8.grownBy W9 (some OB):=by subst hW9;exact wst (wre _ _) _ _
  have x9:Bx W9 OB 38 g nm t b nx (.slice a3 (Z.length+1) c3) (.slice ag gn cg):=by subst hW9;exact X8.out.s5 _
  have hob:=HOBB.out;have z9:=HO8.out.far2 g9 HOBV.out HOBZ.out
  have i9:OwI W9 (w.heap.size+1+1+1) (.slice ag gn cg) G:=World.ownsRow.kept I8.out g9 (by
    cases hgb:Value.ownBlock (.slice ag gn cg) with
    | none=>exact Or.inl rfl
    | some j=>exact Or.inr (fun e=>HGO.out j hgb (by simpa using e)))
  have a9:Bx W9 w.heap.size 38 g nm t b nx (.slice ma mn mc) (.slice ga gn gc):=Bx.grown ((B8.out.block w.heap.size (by omega)).trans T6.out.box) g9 (fun e=>by simp only [Option.some.injEq] at e;omega);have r9:Bx W9 (w.heap.size+1+1) 38 0 ⟨#[]⟩ 0 0 0 (.slice none 0 0) (.slice none 0 0):=Bx.grown ((B8.out.block (w.heap.size+1+1) (by omega)).trans T6.out.ans) g9 (fun e=>by simp only [Option.some.injEq] at e;omega);have b9:Below w.heap.size w W9:=(T6.out.bel.trans (B8.out.mono (by omega))).trans (below_of_grown g9 (by omega) (by have h1:=T6.out.bel.size;have h2:=B8.out.size;omega));simp only [hW9];have c9:=a9.cells;have k9:=x9.cells;have f9:=x9.loose;have X9:=hid x9;have Z9:=hid z9;have I9:=hid i9;have A9:=hid a9;have R9:=hid r9;have B9:=hid b9;clear hHeld hW9 g9 x9 z9 i9 a9 r9 b9 k8 f8 o2 o3 co
  have hnw:nx+1≤10001∧2≤nx+1:=by have:=HNX.out;omega
  go_wp2_with fail
  obtain ⟨W10,hW10⟩:∃ W10,W9.setCell ⟨OB,4,none⟩ (.int .i64 (nx+1))=W10:=⟨_,rfl⟩
  have g10:W9.grownBy W10 (some OB):=by subst hW10;exact wst (wre _ _) _ _
  have x10:Bx W10 OB 38 g nm t b (nx+1) (.slice a3 (Z.length+1) c3) (.slice ag gn cg):=by subst hW10;exact X9.out.s4 _
  have z10:=Z9.out.far2 g10 HOBV.out HOBZ.out
  have i10:OwI W10 (w.heap.size+1+1+1) (.slice ag gn cg) G:=World.ownsRow.kept I9.out g10 (by
    cases hgb:Value.ownBlock (.slice ag gn cg) with
    | none=>exact Or.inl rfl
    | some j=>exact Or.inr (fun e=>HGO.out j hgb (by simpa using e)))
  have a10:=A9.out.grown g10 (fun e=>by simp only [Option.some.injEq] at e;omega);have r10:=R9.out.grown g10 (fun e=>by simp only [Option.some.injEq] at e;omega);have b10:Below w.heap.size w W10:=B9.out.trans (below_of_grown g10 (by omega) B9.out.size);simp only [hW10];have X10:=hid x10;have Z10:=hid z10;have I10:=hid i10;have A10:=hid a10;have R10:=hid r10;have B10:=hid b10
  have HZN:Hid ((Z++[((gid,nx,Value.slice a2 3 c2,fnew fl st sb,tx):Z5)]).map md=L++[nwm gid nx fl tx st sb]):=by show _=_;rw [List.map_append,HZL.out];rfl
  clear hW10 g10 x10 z10 i10 a10 r10 b10 c9 k9 f9
  have hms:Ms (w.heap.size+1+1+1) W10.heap.size W10 a3 (L++[nwm gid nx fl tx st sb]):=by rw [← HZN.out];have h:=Z10.out;rw [show Z.length+1=(Z++[((gid,nx,Value.slice a2 3 c2,fnew fl st sb,tx):Z5)]).length by simp] at h;exact h.ms.2
  have his:Is (w.heap.size+1+1+1) W10.heap.size W10 ag G:=by have h:=I10.out;rw [← HGL.out] at h;exact (OwI.is h).2
  have HMS:=hid hms;have HIS2:=hid his;clear hms his;rw [← HZLN.out];refine (csp5.out _ _ _ _ a3 c3 ag cg W10 HMS.out HIS2.out).mono ?_;rintro e w11 ⟨rfl,hb11⟩;have x11:=X10.out.later hb11;have k11:=x11.cells;have c11:=(A10.out.later hb11).cells;have r11:=R10.out.later hb11;have X11:=hid x11;have Z11:=hid (Z10.out.later hb11);have I11:=hid (own_later I10.out hb11);have R11:=hid r11;have A11:=hid (A10.out.later hb11);have B11:=hid (btr B10.out hb11);have q1:=r11.cells;have q2:=r11.loose;clear x11 r11 hb11 hnw
  cases p5
  ·have HE:=hid (show amOk g nm t b nx L G gid fl tx st sb=false by rw [HX4.out])
   clear k11 q1 q2
   go_wp2_with fail
   refine (l06Copy_any lo hh lo' hh' g nm t b nx ma mn mc ga gn gc L G _ HL.out HN.out HSM.out (HR.out.later B11.out) HGL.out HGN.out (HIS.out.later B11.out) HG0.out).mono ?_;rintro e w12 ⟨mv',gv',rfl,how12,hb12⟩;obtain ⟨Z',hZ',hoz',hoi',hdj',hde'⟩:=how12;obtain ⟨va',vc',rfl⟩:=hoz'.shape;obtain ⟨ag',cg',hgv',_⟩:=hoi'.shape;rw [HGL.out] at hgv';subst hgv';have r12:=R11.out.later hb12;have q1:=r12.cells;have q2:=r12.loose;have R12:=hid r12;have B12:=hid (btr B11.out hb12);have O12:Hid (OwB w12 w11.heap.size (.slice va' Z'.length vc') (.slice ag' gn cg') L G):=⟨Z',hZ',hoz',hoi',hdj',hde'⟩
   have hw11:w.heap.size+1+1+1≤w11.heap.size:=by have h1:=R11.out.lt;omega
   have HW11:=hid hw11;clear r12 hb12 hZ' hoz' hoi' hdj' hde' c11 hw11
   go_wp2
   have e2:=set7_grown w12 (w.heap.size+1+1) g nm t b nx (.slice va' Z'.length vc') (.slice ag' gn cg');have d1:=(R12.out.set7 g nm t b nx (.slice va' Z'.length vc') (.slice ag' gn cg')).cells;unfold set7 at d1 e2;have hbs:=B12.out.size;have hw11:=HW11.out;refine bodyPost_ret (v:=.tuple #[.agg #[.int .i64 g,.string nm,.int .i64 t,.int .i64 b,.int .i64 nx,.slice va' Z'.length vc',.slice ag' gn cg'],.bool false]) (by simp [results,Tryz.results131,go_sem,d1]) rfl ⟨_,_,by rw [HE.out];rfl,?_,?_⟩
   ·rw [HE.out]
    exact (OwB.grown O12.out e2 (by omega)).base (by omega)
   exact B12.out.trans (below_of_grown e2 (by omega) hbs)
  have HE:=hid (show amOk g nm t b nx L G gid fl tx st sb=true by rw [HX4.out]);clear c11
  go_wp2
  have e2:=set7_grown w11 (w.heap.size+1+1) g nm t b (nx+1) (.slice a3 (Z.length+1) c3) (.slice ag gn cg);have d1:=(R11.out.set7 g nm t b (nx+1) (.slice a3 (Z.length+1) c3) (.slice ag gn cg)).cells;unfold set7 at d1 e2;have hbs:=B11.out.size;refine bodyPost_ret (v:=.tuple #[.agg #[.int .i64 g,.string nm,.int .i64 t,.int .i64 b,.int .i64 (nx+1),.slice a3 (Z.length+1) c3,.slice ag gn cg],.bool true]) (by simp [results,Tryz.results131,go_sem,d1]) rfl ⟨_,_,by rw [HE.out];rfl,?_,?_⟩
  ·rw [HE.out]
   exact (OwB.grown ⟨_,HZN.out,Z11.out,I11.out,HDV.out,HDZ.out⟩ e2 (by omega)).base (by omega)
  exact B11.out.trans (below_of_grown e2 (by omega) hbs)
end Go.Proofs.YtdkedgedkgabnaaGreatDoor
