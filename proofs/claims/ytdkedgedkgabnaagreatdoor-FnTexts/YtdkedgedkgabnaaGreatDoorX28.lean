/- Usa, Ust, Us9. -/
import Derived.Test.YtdkedgedkgabnaaGreatDoorX21
import Derived.Test.YtdkedgedkgabnaaGreatDoorX22
import Derived.Test.YtdkedgedkgabnaaGreatDoorX24
import Derived.Test.YtdkedgedkgabnaaGreatDoorX27
namespace Go.Proofs.YtdkedgedkgabnaaGreatDoor
open Go.RowKit Go.ChangeMaps
set_option maxHeartbeats 16000000
set_option maxRecDepth 100000
def nm5:List ByteArray:=[⟨#[105,110,98,111,120]⟩,⟨#[119,111,114,107]⟩,⟨#[111,108,100]⟩,⟨#[110,101,119]⟩,⟨#[111,116,104,101,114]⟩]
def inR (i:Nat) (x:Int):Prop:=100≤x∧x<100+(i:Int)
theorem inR.mono {i j:Nat} {x:Int} (h:inR i x) (hj:i≤j):inR j x:=⟨h.1,by have:=h.2;omega⟩
theorem inR.here (i:Nat):inR (i+1) (100+(i:Int)):=⟨by omega,by omega⟩
structure B7 (i:Nat) (x:X7):Prop where
 gid:inR i x.1
 nam:x.2.1∈nm5
 mls:∀ m∈x.2.2.2.2.2.1,inR i m.1
 gon:∀ g∈x.2.2.2.2.2.2,inR i g
theorem B7.mono {i j:Nat} {x:X7} (h:B7 i x) (hj:i≤j):B7 j x:=⟨h.gid.mono hj,h.nam,fun m hm=>(h.mls m hm).mono hj,fun m hm=>(h.gon m hm).mono hj⟩
structure R7 (i:Nat) (y tm:Int) (S:List X7) (G:List Int):Prop where
 ok:sOk y tm S G=true
 time:tm≤(i:Int)
 most:G.length≤i
 gon:∀ g∈G,inR i g
 box:∀ x∈S,B7 i x
theorem R7.mono {i j:Nat} {y tm:Int} {S:List X7} {G:List Int} (h:R7 i y tm S G) (hj:i≤j):R7 j y tm S G :=
 ⟨h.ok,by have:=h.time;omega,by have:=h.most;omega,fun g hg=>(h.gon g hg).mono hj,fun x hx=>(h.box x hx).mono hj⟩
theorem R7.start {y:Int} (h1:1≤y) (h2:y≤2):R7 0 y 0 [] [] :=
 ⟨sOk_iff.2 ⟨⟨h1,h2⟩,by decide,by decide,by decide,by decide,(fun x hx=>by cases hx),List.Pairwise.nil,List.Pairwise.nil⟩,by decide,by decide,(fun x hx=>by cases hx),(fun x hx=>by cases hx)⟩
theorem R7.pick {i:Nat} {y tm tm1:Int} {S S1:List X7} {G G1:List Int} {p:Bool} (h:R7 i y tm S G) (h1:p=true→R7 (i+1) y tm1 S1 G1):R7 (i+1) y (pik p tm1 tm) (pik p S1 S) (pik p G1 G):=by
 cases p with
 | false=>exact h.mono (Nat.le_succ i)
 | true=>exact h1 rfl
theorem bxx_sx {x:X7} (h:bxx x=true):Sx1 x:=by
 obtain ⟨g,nm,t,b,nx,L,G⟩:=x;have h':bxOk g nm t b nx L G=true:=h;obtain ⟨h1,h2,h3⟩:=bx_small h';have hn:=(bx_iff.1 h').2.1;simp only [nmOk,Bool.and_eq_true,decide_eq_true_eq] at hn;exact ⟨by show nm.size≤_;omega,by show L.length≤_;omega,fun m hm=>⟨by have:=(h3 m hm).1;omega,by have:=(h3 m hm).2;omega⟩,by show G.length≤_;omega⟩
theorem sOk_sb {y tm:Int} {S:List X7} {G:List Int} (h:sOk y tm S G=true):S.length≤5∧Sb S∧G.length≤20∧0≤tm∧tm≤100000:=by
 obtain ⟨_,hb,h1,_,_,hx,_⟩:=sOk_iff.1 h;exact ⟨h1,fun x hx'=>bxx_sx (hx x hx').1,(sOk_gone h).2,hb.1,hb.2⟩
theorem pik_sb {y tm1:Int} {S S1:List X7} {G G1:List Int} (p:Bool) (hp:p=true→sOk y tm1 S1 G1=true) (hsb:Sb S) (h1:S.length≤1048576) (h2:G.length≤1048576):((pik p S1 S).length≤1048576∧Sb (pik p S1 S))∧(pik p G1 G).length≤1048576:=by
 cases p with
 | false=>exact ⟨⟨h1,hsb⟩,h2⟩
 | true =>
  obtain ⟨h1,h2,h3,_⟩:=sOk_sb (hp rfl);exact ⟨⟨by show S1.length≤_;omega,h2⟩,by show G1.length≤_;omega⟩
theorem mem_chB {S:List X7} {box:Int} {ok:X7→Bool} {f:X7→X7} {z:X7} (h:z∈(chB S box ok f).2):z∈S∨∃ x∈S,z=f x:=by
 rcases fidx_cases (isG box) S 0 with hneg | ⟨i,hi,hiz,_⟩
 ·rw [chB_no hneg] at h;exact .inl h
 rw [Nat.zero_add] at hiz;rw [chB_at hiz hi rfl] at h
 rcases mem_set h with h | h
 ·exact .inl h
 exact .inr ⟨S[i],List.getElem_mem hi,h⟩
theorem mem_pin {x g:Int} {G:List Int} (h:g∈pin x G):g=x∨g∈G:=by
 unfold pin at h
 rcases List.mem_append.1 h with h | h
 ·exact .inr (List.mem_filter.1 h).1
 rcases List.mem_cons.1 h with h | h
 ·exact .inl h
 exact .inr (List.mem_filter.1 h).1
theorem pin_le7 (x:Int) (G:List Int):(pin x G).length≤G.length+1:=by
 have h:∀ G:List Int,(G.filter (fun y=>decide (y<x))).length+(G.filter (fun y=>decide (x<y))).length≤G.length:=by
  intro G
  induction G with
  | nil=>simp
  | cons a G ih =>
   by_cases h1:a<x
   ·have h2:¬ x<a:=by omega
    simp only [List.filter_cons,h1,h2,decide_true,decide_false,if_true,List.length_cons];simp only [Bool.false_eq_true,if_false]
    omega
   by_cases h2:x<a
   ·simp only [List.filter_cons,h1,h2,decide_true,decide_false,if_true,List.length_cons]
    simp only [Bool.false_eq_true,if_false]
    omega
   simp only [List.filter_cons,h1,h2,decide_false,List.length_cons];simp only [Bool.false_eq_true,if_false]
   omega
 have:=h G;unfold pin;rw [List.length_append,List.length_cons]
 omega
section
variable {i:Nat} {y tm:Int} {S:List X7} {G:List Int} {p:Bool}
theorem R7.make {nm:ByteArray} (h:R7 i y tm S G) (hn:nm∈nm5) (hp:(sOk y tm S G&&((!kno (100+(i:Int)) S G&&!(S.any (isN nm)))&&sOk y (tm+1) (insX (100+(i:Int),nm,tm+1,y,1,[],[]) S) G))=p) :
  R7 (i+1) y (pik p (tm+1) tm) (pik p (insX (100+(i:Int),nm,tm+1,y,1,[],[]) S) S) (pik p G G):=by
 refine h.pick (fun e=>?_);rw [e] at hp;simp only [Bool.and_eq_true] at hp;refine ⟨hp.2.2,by have:=h.time;omega,by have:=h.most;omega,fun g hg=>(h.gon g hg).mono (Nat.le_succ i),fun x hx=>?_⟩;unfold insX at hx
 rcases List.mem_append.1 hx with hx | hx
 ·exact (h.box x (List.mem_of_mem_take hx)).mono (Nat.le_succ i)
 rcases List.mem_cons.1 hx with rfl | hx
 ·exact ⟨inR.here i,hn,(fun m hm=>by cases hm),(fun m hm=>by cases hm)⟩
 exact (h.box x (List.mem_of_mem_drop hx)).mono (Nat.le_succ i)
theorem R7.put {box fl:Int} {tx:ByteArray} (h:R7 i y tm S G) (hp:(sOk y tm S G&&((!kno (100+(i:Int)) S G&&(chB S box (pmK y tm (100+(i:Int)) fl tx) (pmF y tm (100+(i:Int)) fl tx)).1)&&sOk y (tm+1) (chB S box (pmK y tm (100+(i:Int)) fl tx) (pmF y tm (100+(i:Int)) fl tx)).2 G))=p) :
  R7 (i+1) y (pik p (tm+1) tm) (pik p (chB S box (pmK y tm (100+(i:Int)) fl tx) (pmF y tm (100+(i:Int)) fl tx)).2 S) (pik p G G):=by
 refine h.pick (fun e=>?_);rw [e] at hp;simp only [Bool.and_eq_true] at hp;refine ⟨hp.2.2,by have:=h.time;omega,by have:=h.most;omega,fun g hg=>(h.gon g hg).mono (Nat.le_succ i),fun x hx=>?_⟩
 rcases mem_chB hx with hx | ⟨x',hx',rfl⟩
 ·exact (h.box x hx).mono (Nat.le_succ i)
 have hb:=(h.box x' hx').mono (Nat.le_succ i);refine ⟨hb.gid,hb.nam,fun m hm=>?_,hb.gon⟩;simp only [pmF,amL] at hm
 split at hm
 ·rcases List.mem_append.1 hm with hm | hm
  ·exact hb.mls m hm
  simp only [List.mem_cons,List.not_mem_nil,or_false] at hm;rw [hm];exact inR.here i
 exact hb.mls m hm
theorem R7.mark {box gid fl:Int} (h:R7 i y tm S G) (hp:(sOk y tm S G&&((chB S box (mmK y tm gid fl) (mmF y tm gid fl)).1&&sOk y (tm+1) (chB S box (mmK y tm gid fl) (mmF y tm gid fl)).2 G))=p) :
  R7 (i+1) y (pik p (tm+1) tm) (pik p (chB S box (mmK y tm gid fl) (mmF y tm gid fl)).2 S) (pik p G G):=by
 refine h.pick (fun e=>?_);rw [e] at hp;simp only [Bool.and_eq_true] at hp;refine ⟨hp.2.2,by have:=h.time;omega,by have:=h.most;omega,fun g hg=>(h.gon g hg).mono (Nat.le_succ i),fun x hx=>?_⟩
 rcases mem_chB hx with hx | ⟨x',hx',rfl⟩
 ·exact (h.box x hx).mono (Nat.le_succ i)
 have hb:=(h.box x' hx').mono (Nat.le_succ i);refine ⟨hb.gid,hb.nam,fun m hm=>?_,hb.gon⟩;simp only [mmF,fmL] at hm
 split at hm
 ·obtain ⟨m',hm',rfl⟩:=List.mem_map.1 hm
  have:=hb.mls m' hm'
  split
  ·exact this
  exact this
 exact hb.mls m hm
theorem R7.dropM {box gid:Int} (h:R7 i y tm S G) (hp:(sOk y tm S G&&((chB S box (dmK gid) (dmF gid)).1&&sOk y tm (chB S box (dmK gid) (dmF gid)).2 G))=p) :
  R7 (i+1) y (pik p tm tm) (pik p (chB S box (dmK gid) (dmF gid)).2 S) (pik p G G):=by
 refine h.pick (fun e=>?_);rw [e] at hp;simp only [Bool.and_eq_true] at hp;refine ⟨hp.2.2,by have:=h.time;omega,by have:=h.most;omega,fun g hg=>(h.gon g hg).mono (Nat.le_succ i),fun x hx=>?_⟩
 rcases mem_chB hx with hx | ⟨x',hx',rfl⟩
 ·exact (h.box x hx).mono (Nat.le_succ i)
 have hb:=(h.box x' hx').mono (Nat.le_succ i);refine ⟨hb.gid,hb.nam,fun m hm=>hb.mls m ((tk_sub _ _ _).subset hm),fun g hg=>?_⟩
 cases hk:dmK gid x' with
 | false =>
  simp only [dmF,hk,tkG_no] at hg;exact hb.gon g hg
 | true =>
  have hk2:=hk;simp only [dmF,hk,tkG,if_true] at hg
  rcases mem_pin hg with rfl | hg
  ·simp only [dmK,tkOk,Bool.and_eq_true] at hk2
   obtain ⟨m,hm,e⟩:=List.any_eq_true.1 hk2.2.1;have:=hb.mls m hm;simp only [decide_eq_true_eq] at e;rw [← e];exact this
  exact hb.gon g hg
theorem R7.ren {gid:Int} {nm:ByteArray} (h:R7 i y tm S G) (hn:nm∈nm5) (hp:(sOk y tm S G&&((chB S gid (rnK nm S) (rnF y tm nm)).1&&sOk y (tm+1) (chB S gid (rnK nm S) (rnF y tm nm)).2 G))=p) :
  R7 (i+1) y (pik p (tm+1) tm) (pik p (chB S gid (rnK nm S) (rnF y tm nm)).2 S) (pik p G G):=by
 refine h.pick (fun e=>?_);rw [e] at hp;simp only [Bool.and_eq_true] at hp;refine ⟨hp.2.2,by have:=h.time;omega,by have:=h.most;omega,fun g hg=>(h.gon g hg).mono (Nat.le_succ i),fun x hx=>?_⟩
 rcases mem_chB hx with hx | ⟨x',hx',rfl⟩
 ·exact (h.box x hx).mono (Nat.le_succ i)
 have hb:=(h.box x' hx').mono (Nat.le_succ i);exact ⟨hb.gid,hn,hb.mls,hb.gon⟩
theorem R7.dropB {gid:Int} (h:R7 i y tm S G) (hp:(sOk y tm S G&&(dbO S gid&&sOk y tm (dbS S gid) (pin gid G)))=p) :
  R7 (i+1) y (pik p tm tm) (pik p (dbS S gid) S) (pik p (pin gid G) G):=by
 refine h.pick (fun e=>?_);rw [e] at hp;simp only [Bool.and_eq_true] at hp
 have hmem:∀ x∈dbS S gid,x∈S:=by
  intro x hx;unfold dbS at hx
  split at hx
  ·rcases List.mem_append.1 hx with hx | hx
   ·exact List.mem_of_mem_take hx
   exact List.mem_of_mem_drop hx
  exact hx
 refine ⟨hp.2.2,by have:=h.time;omega,by have:=h.most;have:=pin_le7 gid G;omega,fun g hg=>?_,fun x hx=>(h.box x (hmem x hx)).mono (Nat.le_succ i)⟩
 rcases mem_pin hg with rfl | hg
 ·have h1:=hp.2.1
  simp only [dbO,decide_eq_true_eq] at h1
  rcases fidx_cases (isG g) S 0 with hneg | ⟨j,hj,_,hpj⟩
  ·omega
  have:=(h.box S[j] (List.getElem_mem hj)).gid.mono (Nat.le_succ i);rw [isG_at hj hpj] at this;exact this
 exact (h.gon g hg).mono (Nat.le_succ i)
end
structure Tg (W:World) (lo hi:Nat) (ba:Option Addr) (bn bc:Nat) (ga:Option Addr) (gn gc:Nat) (S:List X7) (G:List Int):Prop where
 len:S.length=bn
 most:bn≤1048576
 sb:Sb S
 boxes:Bs lo hi W ba S
 b0:ba=none→bc=0
 glen:G.length=gn
 gmost:gn≤1048576
 gone:Is lo hi W ga G
 g0:ga=none→gc=0
section
variable {W W':World} {lo hi:Nat} {ba:Option Addr} {bn bc:Nat} {ga:Option Addr} {gn gc:Nat} {S:List X7} {G:List Int}
theorem Tg.same (h:Tg W lo hi ba bn bc ga gn gc S G) (hs:hi≤W'.heap.size) (hk:∀ k,lo≤k→k<hi→W'.heap[k]?=W.heap[k]?):Tg W' lo hi ba bn bc ga gn gc S G :=
 ⟨h.len,h.most,h.sb,h.boxes.same hs hk,h.b0,h.glen,h.gmost,h.gone.same hs hk,h.g0⟩
theorem Tg.later (h:Tg W lo hi ba bn bc ga gn gc S G) (hb:Below W.heap.size W W'):Tg W' lo hi ba bn bc ga gn gc S G :=
 h.same (Nat.le_trans h.boxes.1 hb.size) (fun k _ hk=>hb.block k (Nat.lt_of_lt_of_le hk h.boxes.1))
theorem Tg.far {k:Nat} (h:Tg W lo hi ba bn bc ga gn gc S G) (hg:W.grownBy W' (some k)) (hk:k<lo∨hi≤k):Tg W' lo hi ba bn bc ga gn gc S G :=
 h.same (Nat.le_trans h.boxes.1 hg.size) (fun j h1 h2=>hg.block j (Nat.lt_of_lt_of_le h2 h.boxes.1) (fun e=>by simp only [Option.some.injEq] at e;omega))
theorem Tg.wide {lo' hi':Nat} (h:Tg W lo hi ba bn bc ga gn gc S G) (h1:lo'≤lo) (h2:hi≤hi') (h3:hi'≤W.heap.size):Tg W lo' hi' ba bn bc ga gn gc S G :=
 ⟨h.len,h.most,h.sb,h.boxes.wide h1 h2 h3,h.b0,h.glen,h.gmost,h.gone.wid h1 h2 h3,h.g0⟩
theorem Tg.top (h:Tg W lo hi ba bn bc ga gn gc S G):hi≤W.heap.size:=h.boxes.1
theorem OwT.tg {B:Nat} (h:OwT W B (.slice ba bn bc) (.slice ga gn gc) S G) (h1:S.length≤1048576) (h2:Sb S) (h3:G.length≤1048576):Tg W B W.heap.size ba bn bc ga gn gc S G:=by
 obtain ⟨e1,e2,r1,r2⟩:=h.reads;obtain ⟨Y,_,o1,o2,_⟩:=h.own;refine ⟨e1.symm,by omega,h2,r1,o1.nil0,e2.symm,by omega,r2,fun e=>?_⟩;subst e;obtain ⟨a9,c9,e9,e8⟩:=o2.shape;simp only [Value.slice.injEq] at e9;rw [e9.2.2];exact e8 e9.1.symm
theorem Tg.nil (W:World) (lo:Nat):Tg W lo W.heap.size none 0 0 none 0 0 [] [] :=
 ⟨rfl,by omega,(fun x hx=>by cases hx),⟨Nat.le_refl _,fun i hi=>by simp at hi⟩,fun _=>rfl,rfl,by omega,⟨Nat.le_refl _,fun i hi=>by simp at hi⟩,fun _=>rfl⟩
end
def An7 (y tnQ:Int) (N M:Nat) (K:List X7) (H:List Int) (p:Bool) (w:World) (e:Ending) (w':World):Prop :=
 ∃ (a:Option Addr) (c:Nat) (a':Option Addr) (c':Nat),e=.returned (.tuple #[.agg #[.int .i64 y,.int .i64 tnQ,.slice a N c,.slice a' M c'],.bool p])∧Tg w' w.heap.size w'.heap.size a N c a' M c' K H∧Below w.heap.size w w'
theorem an7_of {y tnQ:Int} {K:List X7} {H:List Int} {p:Bool} {w w':World} {e:Ending} (h1:K.length≤1048576) (h2:Sb K) (h3:H.length≤1048576) (h:∃ bv gv,e=.returned (.tuple #[.agg #[.int .i64 y,.int .i64 tnQ,bv,gv],.bool p])∧OwT w' w.heap.size bv gv K H∧Below w.heap.size w w'):An7 y tnQ K.length H.length K H p w e w':=by
 obtain ⟨bv,gv,rfl,ho,hb⟩:=h;obtain ⟨a,c,a',c',rfl,rfl⟩:=ho.shape;exact ⟨a,c,a',c',rfl,ho.tg h1 h2 h3,hb⟩
theorem make_s {y tm:Int} {bn gn:Nat} {S:List X7} {G:List Int} (gid:Int) (nm:ByteArray) (hl:S.length=bn) (hn:bn≤1048576) (hsb:Sb S) (hgl:G.length=gn) (hgn:gn≤1048576) (hnm:nm.size≤1048576) :
  ∃ (p:Bool) (tnQ:Int) (K:List X7) (H:List Int) (N M:Nat),Hid ((sOk y tm S G&&((!kno gid S G&&!(S.any (isN nm)))&&sOk y (tm+1) (insX (gid,nm,tm+1,y,1,[],[]) S) G))=p∧tnQ=pik p (tm+1) tm∧K=pik p (insX (gid,nm,tm+1,y,1,[],[]) S) S∧H=pik p G G)∧Hid (K.length=N∧N≤1048576∧Sb K∧H.length=M∧M≤1048576) ∧
  Hid (∀ (lo hi:Nat) (ba:Option Addr) (bc:Nat) (ga:Option Addr) (gc:Nat) (w:World),Tg w lo hi ba bn bc ga gn gc S G→Calls Tryz.prog 150 #[.agg #[.int .i64 y,.int .i64 tm,.slice ba bn bc,.slice ga gn gc],.int .i64 gid,.string nm] w fun e w'=>An7 y tnQ N M K H p w e w'):=by
 obtain ⟨p,hp⟩:∃ p,(sOk y tm S G&&((!kno gid S G&&!(S.any (isN nm)))&&sOk y (tm+1) (insX (gid,nm,tm+1,y,1,[],[]) S) G))=p:=⟨_,rfl⟩
 have hsm:=pik_sb (y:=y) (tm1:=(tm+1)) (S:=S) (S1:=(insX (gid,nm,tm+1,y,1,[],[]) S)) (G:=G) (G1:=G) p (fun h=>by
   rw [h] at hp
   simp only [Bool.and_eq_true] at hp
   exact hp.2.2) hsb (by omega) (by omega)
 refine ⟨p,_,_,_,_,_,⟨hp,rfl,rfl,rfl⟩,⟨rfl,hsm.1.1,hsm.1.2,rfl,hsm.2⟩,?_⟩
 ·intro lo hi ba bc ga gc w h
  exact (specMakeB_any lo hi lo hi y tm ba bn bc ga gn gc S G gid nm w hl hn hsb h.boxes hgl hgn h.gone h.g0 hnm p hp).mono (fun e w'=>an7_of hsm.1.1 hsm.1.2 hsm.2)
theorem ren_s {y tm:Int} {bn gn:Nat} {S:List X7} {G:List Int} (gid:Int) (nm:ByteArray) (hl:S.length=bn) (hn:bn≤1048576) (hsb:Sb S) (hgl:G.length=gn) (hgn:gn≤1048576) (hnm:nm.size≤1048576) :
  ∃ (p:Bool) (tnQ:Int) (K:List X7) (H:List Int) (N M:Nat),Hid ((sOk y tm S G&&((chB S gid (rnK nm S) (rnF y tm nm)).1&&sOk y (tm+1) (chB S gid (rnK nm S) (rnF y tm nm)).2 G))=p∧tnQ=pik p (tm+1) tm∧K=pik p (chB S gid (rnK nm S) (rnF y tm nm)).2 S∧H=pik p G G)∧Hid (K.length=N∧N≤1048576∧Sb K∧H.length=M∧M≤1048576) ∧
  Hid (∀ (lo hi:Nat) (ba:Option Addr) (bc:Nat) (ga:Option Addr) (gc:Nat) (w:World),Tg w lo hi ba bn bc ga gn gc S G→Calls Tryz.prog 154 #[.agg #[.int .i64 y,.int .i64 tm,.slice ba bn bc,.slice ga gn gc],.int .i64 gid,.string nm] w fun e w'=>An7 y tnQ N M K H p w e w'):=by
 obtain ⟨p,hp⟩:∃ p,(sOk y tm S G&&((chB S gid (rnK nm S) (rnF y tm nm)).1&&sOk y (tm+1) (chB S gid (rnK nm S) (rnF y tm nm)).2 G))=p:=⟨_,rfl⟩
 have hsm:=pik_sb (y:=y) (tm1:=(tm+1)) (S:=S) (S1:=(chB S gid (rnK nm S) (rnF y tm nm)).2) (G:=G) (G1:=G) p (fun h=>by
   rw [h] at hp
   simp only [Bool.and_eq_true] at hp
   exact hp.2.2) hsb (by omega) (by omega)
 refine ⟨p,_,_,_,_,_,⟨hp,rfl,rfl,rfl⟩,⟨rfl,hsm.1.1,hsm.1.2,rfl,hsm.2⟩,?_⟩
 ·intro lo hi ba bc ga gc w h
  exact (specRenB_any lo hi lo hi y tm ba bn bc ga gn gc S G gid nm w hl hn hsb h.boxes hgl hgn h.gone h.g0 hnm p hp).mono (fun e w'=>an7_of hsm.1.1 hsm.1.2 hsm.2)
theorem dropB_s {y tm:Int} {bn gn:Nat} {S:List X7} {G:List Int} (gid:Int) (hl:S.length=bn) (hn:bn≤1048576) (hsb:Sb S) (hgl:G.length=gn) (hgn:gn≤1048576)  :
  ∃ (p:Bool) (tnQ:Int) (K:List X7) (H:List Int) (N M:Nat),Hid ((sOk y tm S G&&(dbO S gid&&sOk y tm (dbS S gid) (pin gid G)))=p∧tnQ=pik p tm tm∧K=pik p (dbS S gid) S∧H=pik p (pin gid G) G)∧Hid (K.length=N∧N≤1048576∧Sb K∧H.length=M∧M≤1048576) ∧
  Hid (∀ (lo hi:Nat) (ba:Option Addr) (bc:Nat) (ga:Option Addr) (gc:Nat) (w:World),Tg w lo hi ba bn bc ga gn gc S G→Calls Tryz.prog 155 #[.agg #[.int .i64 y,.int .i64 tm,.slice ba bn bc,.slice ga gn gc],.int .i64 gid] w fun e w'=>An7 y tnQ N M K H p w e w'):=by
 obtain ⟨p,hp⟩:∃ p,(sOk y tm S G&&(dbO S gid&&sOk y tm (dbS S gid) (pin gid G)))=p:=⟨_,rfl⟩
 have hsm:=pik_sb (y:=y) (tm1:=tm) (S:=S) (S1:=(dbS S gid)) (G:=G) (G1:=(pin gid G)) p (fun h=>by
   rw [h] at hp
   simp only [Bool.and_eq_true] at hp
   exact hp.2.2) hsb (by omega) (by omega)
 refine ⟨p,_,_,_,_,_,⟨hp,rfl,rfl,rfl⟩,⟨rfl,hsm.1.1,hsm.1.2,rfl,hsm.2⟩,?_⟩
 ·intro lo hi ba bc ga gc w h
  exact (specDropB_any lo hi lo hi y tm ba bn bc ga gn gc S G gid w hl hn hsb h.boxes hgl hgn h.gone h.g0  p (dropB_right.trans hp)).mono (fun e w'=>an7_of hsm.1.1 hsm.1.2 hsm.2)
theorem put_s {y tm:Int} {bn gn:Nat} {S:List X7} {G:List Int} (box gid fl:Int) (tx:ByteArray) (hl:S.length=bn) (hn:bn≤1048576) (hsb:Sb S) (hgl:G.length=gn) (hgn:gn≤1048576) (htx:tx.size≤1048576) :
  ∃ (p:Bool) (tnQ:Int) (K:List X7) (H:List Int) (N M:Nat),Hid ((sOk y tm S G&&((!kno gid S G&&(chB S box (pmK y tm gid fl tx) (pmF y tm gid fl tx)).1)&&sOk y (tm+1) (chB S box (pmK y tm gid fl tx) (pmF y tm gid fl tx)).2 G))=p∧tnQ=pik p (tm+1) tm∧K=pik p (chB S box (pmK y tm gid fl tx) (pmF y tm gid fl tx)).2 S∧H=pik p G G)∧Hid (K.length=N∧N≤1048576∧Sb K∧H.length=M∧M≤1048576) ∧
  Hid (∀ (lo hi:Nat) (ba:Option Addr) (bc:Nat) (ga:Option Addr) (gc:Nat) (w:World),Tg w lo hi ba bn bc ga gn gc S G→Calls Tryz.prog 151 #[.agg #[.int .i64 y,.int .i64 tm,.slice ba bn bc,.slice ga gn gc],.int .i64 box,.int .i64 gid,.int .i64 fl,.string tx] w fun e w'=>An7 y tnQ N M K H p w e w'):=by
 obtain ⟨p,hp⟩:∃ p,(sOk y tm S G&&((!kno gid S G&&(chB S box (pmK y tm gid fl tx) (pmF y tm gid fl tx)).1)&&sOk y (tm+1) (chB S box (pmK y tm gid fl tx) (pmF y tm gid fl tx)).2 G))=p:=⟨_,rfl⟩
 have hsm:=pik_sb (y:=y) (tm1:=(tm+1)) (S:=S) (S1:=(chB S box (pmK y tm gid fl tx) (pmF y tm gid fl tx)).2) (G:=G) (G1:=G) p (fun h=>by
   rw [h] at hp
   simp only [Bool.and_eq_true] at hp
   exact hp.2.2) hsb (by omega) (by omega)
 refine ⟨p,_,_,_,_,_,⟨hp,rfl,rfl,rfl⟩,⟨rfl,hsm.1.1,hsm.1.2,rfl,hsm.2⟩,?_⟩
 ·intro lo hi ba bc ga gc w h
  exact (specPutM_any lo hi lo hi y tm ba bn bc ga gn gc S G box gid fl tx w hl hn hsb h.boxes hgl hgn h.gone h.g0 htx p hp).mono (fun e w'=>an7_of hsm.1.1 hsm.1.2 hsm.2)
theorem mark_s {y tm:Int} {bn gn:Nat} {S:List X7} {G:List Int} (box gid fl:Int) (hl:S.length=bn) (hn:bn≤1048576) (hsb:Sb S) (hgl:G.length=gn) (hgn:gn≤1048576)  :
  ∃ (p:Bool) (tnQ:Int) (K:List X7) (H:List Int) (N M:Nat),Hid ((sOk y tm S G&&((chB S box (mmK y tm gid fl) (mmF y tm gid fl)).1&&sOk y (tm+1) (chB S box (mmK y tm gid fl) (mmF y tm gid fl)).2 G))=p∧tnQ=pik p (tm+1) tm∧K=pik p (chB S box (mmK y tm gid fl) (mmF y tm gid fl)).2 S∧H=pik p G G)∧Hid (K.length=N∧N≤1048576∧Sb K∧H.length=M∧M≤1048576) ∧
  Hid (∀ (lo hi:Nat) (ba:Option Addr) (bc:Nat) (ga:Option Addr) (gc:Nat) (w:World),Tg w lo hi ba bn bc ga gn gc S G→Calls Tryz.prog 152 #[.agg #[.int .i64 y,.int .i64 tm,.slice ba bn bc,.slice ga gn gc],.int .i64 box,.int .i64 gid,.int .i64 fl] w fun e w'=>An7 y tnQ N M K H p w e w'):=by
 obtain ⟨p,hp⟩:∃ p,(sOk y tm S G&&((chB S box (mmK y tm gid fl) (mmF y tm gid fl)).1&&sOk y (tm+1) (chB S box (mmK y tm gid fl) (mmF y tm gid fl)).2 G))=p:=⟨_,rfl⟩
 have hsm:=pik_sb (y:=y) (tm1:=(tm+1)) (S:=S) (S1:=(chB S box (mmK y tm gid fl) (mmF y tm gid fl)).2) (G:=G) (G1:=G) p (fun h=>by
   rw [h] at hp
   simp only [Bool.and_eq_true] at hp
   exact hp.2.2) hsb (by omega) (by omega)
 refine ⟨p,_,_,_,_,_,⟨hp,rfl,rfl,rfl⟩,⟨rfl,hsm.1.1,hsm.1.2,rfl,hsm.2⟩,?_⟩
 ·intro lo hi ba bc ga gc w h
  exact (specMarkM_any lo hi lo hi y tm ba bn bc ga gn gc S G box gid fl w hl hn hsb h.boxes hgl hgn h.gone h.g0  p hp).mono (fun e w'=>an7_of hsm.1.1 hsm.1.2 hsm.2)
theorem dropM_s {y tm:Int} {bn gn:Nat} {S:List X7} {G:List Int} (box gid:Int) (hl:S.length=bn) (hn:bn≤1048576) (hsb:Sb S) (hgl:G.length=gn) (hgn:gn≤1048576)  :
  ∃ (p:Bool) (tnQ:Int) (K:List X7) (H:List Int) (N M:Nat),Hid ((sOk y tm S G&&((chB S box (dmK gid) (dmF gid)).1&&sOk y tm (chB S box (dmK gid) (dmF gid)).2 G))=p∧tnQ=pik p tm tm∧K=pik p (chB S box (dmK gid) (dmF gid)).2 S∧H=pik p G G)∧Hid (K.length=N∧N≤1048576∧Sb K∧H.length=M∧M≤1048576) ∧
  Hid (∀ (lo hi:Nat) (ba:Option Addr) (bc:Nat) (ga:Option Addr) (gc:Nat) (w:World),Tg w lo hi ba bn bc ga gn gc S G→Calls Tryz.prog 153 #[.agg #[.int .i64 y,.int .i64 tm,.slice ba bn bc,.slice ga gn gc],.int .i64 box,.int .i64 gid] w fun e w'=>An7 y tnQ N M K H p w e w'):=by
 obtain ⟨p,hp⟩:∃ p,(sOk y tm S G&&((chB S box (dmK gid) (dmF gid)).1&&sOk y tm (chB S box (dmK gid) (dmF gid)).2 G))=p:=⟨_,rfl⟩
 have hsm:=pik_sb (y:=y) (tm1:=tm) (S:=S) (S1:=(chB S box (dmK gid) (dmF gid)).2) (G:=G) (G1:=G) p (fun h=>by
   rw [h] at hp
   simp only [Bool.and_eq_true] at hp
   exact hp.2.2) hsb (by omega) (by omega)
 refine ⟨p,_,_,_,_,_,⟨hp,rfl,rfl,rfl⟩,⟨rfl,hsm.1.1,hsm.1.2,rfl,hsm.2⟩,?_⟩
 ·intro lo hi ba bc ga gc w h
  exact (specDropM_any lo hi lo hi y tm ba bn bc ga gn gc S G box gid w hl hn hsb h.boxes hgl hgn h.gone h.g0  p (dropM_right.trans hp)).mono (fun e w'=>an7_of hsm.1.1 hsm.1.2 hsm.2)
end Go.Proofs.YtdkedgedkgabnaaGreatDoor
