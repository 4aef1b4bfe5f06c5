/- Bqq, Tjf, Sbx, Bdp, Bdl. -/
import Derived.Test.YtdkedgedkgabnaaGreatDoorX23
namespace Go.Proofs.YtdkedgedkgabnaaGreatDoor
open Go.RowKit Go.ChangeMaps
set_option maxHeartbeats 16000000
set_option maxRecDepth 100000
theorem bx_iff {g:Int} {nm:ByteArray} {t b nx:Int} {L:List M4} {G:List Int}:bxOk g nm t b nx L G=true ↔
  gok g=true∧nmOk nm=true∧stOk t b=true∧(1≤nx∧nx≤10000)∧L.length≤10∧gnOk G=true∧(∀ m∈L,mlOk m.1 m.2.1 m.2.2.1 m.2.2.2=true∧m.2.1<nx∧inl m.1 G=false)∧Upr L∧uq L=true:=by
 constructor
 ·intro h
  have hp:=bx_parts h;simp only [bxOk,Bool.and_eq_true,decide_eq_true_eq,bxm] at h;obtain ⟨h1,h2,h3,h4,h5,h6,h7,h8⟩:=h;refine ⟨h1,h2,h3,h4,by omega,h6,fun m hm=>?_,alr_upr h7,h8⟩;obtain ⟨i,hi,rfl⟩:=List.getElem_of_mem hm;have h9:=List.all_eq_true.1 h7 i (List.mem_range.2 hi);rw [stp_at hi (g:=L[i].1) (u:=L[i].2.1) (l:=L[i].2.2.1) (t:=L[i].2.2.2) rfl] at h9;simp only [Bool.and_eq_true,decide_eq_true_eq,Bool.not_eq_true'] at h9;exact ⟨h9.1,h9.2.1,h9.2.2.2⟩
 rintro ⟨h1,h2,h3,h4,h5,h6,h7,h8,h9⟩;simp only [bxOk,Bool.and_eq_true,decide_eq_true_eq,bxm];refine ⟨h1,h2,h3,h4,by omega,h6,alr_all (fun i hi=>?_),h9⟩;have hm:=h7 L[i] (List.getElem_mem hi);rw [stp_at hi (g:=L[i].1) (u:=L[i].2.1) (l:=L[i].2.2.1) (t:=L[i].2.2.2) rfl];simp only [Bool.and_eq_true,decide_eq_true_eq,Bool.not_eq_true'];refine ⟨hm.1,hm.2.1,?_,hm.2.2⟩
 cases i with
 | zero=>rw [us_zero];exact mlOk_pos hm.1
 | succ i =>
  rw [us_succ (by omega)];exact List.pairwise_iff_getElem.1 h8 i (i+1) (by omega) hi (by omega)
theorem bx_small {g:Int} {nm:ByteArray} {t b nx:Int} {L:List M4} {G:List Int} (h:bxOk g nm t b nx L G=true):L.length≤10∧G.length≤40∧(∀ m∈L,m.2.2.1.length=3∧m.2.2.2.size≤60):=by
 obtain ⟨_,_,_,_,h5,h6,h7,_⟩:=bx_iff.1 h;simp only [gnOk,Bool.and_eq_true,decide_eq_true_eq] at h6;refine ⟨h5,by omega,fun m hm=>?_⟩;have h8:=(h7 m hm).1;simp only [mlOk,Bool.and_eq_true,decide_eq_true_eq,flOk] at h8;exact ⟨h8.2.2.1.1,by omega⟩
theorem bit_le (n:Int) (i:Nat):0≤bit n i∧bit n i≤1:=by unfold bit;omega
theorem sl_ok {l:List R3} {n t b:Int} (h:flOk l=true):flOk (sl l n t b)=true:=by
 unfold sl
 split
 ·simp only [flOk,Bool.and_eq_true,decide_eq_true_eq,List.all_eq_true] at h ⊢
  refine ⟨by rw [List.length_mapIdx];exact h.1,fun p hp=>?_⟩;obtain ⟨i,hi,rfl⟩:=List.mem_mapIdx.1 hp;have ho:=h.2 l[i] (List.getElem_mem hi);unfold sp
  split
  ·exact ho
  unfold pp
  split
  ·next h1 =>
   simp only [Bool.and_eq_true] at h1;have h2:=bit_le n i;simp only [okp,Bool.and_eq_true,decide_eq_true_eq];exact ⟨h1.1,h2.2⟩
  exact ho
 exact h
theorem fgm_ok {m:M4} {n st sb:Int} (h:mlOk m.1 m.2.1 m.2.2.1 m.2.2.2=true):mlOk (fgm m n st sb).1 (fgm m n st sb).2.1 (fgm m n st sb).2.2.1 (fgm m n st sb).2.2.2=true:=by
 simp only [mlOk,Bool.and_eq_true,fgm] at h ⊢;exact ⟨h.1,h.2.1,sl_ok h.2.2.1,h.2.2.2⟩
theorem fm_right {g:Int} {nm:ByteArray} {t b nx:Int} {L:List M4} {G:List Int} {p:Bool} {gid n st sb:Int} (h:bxOk g nm t b nx L G=true):bxOk g nm t b nx (fmL p L gid n st sb) G=true:=by
 cases p with
 | false=>rw [fmL_no];exact h
 | true =>
  obtain ⟨h1,h2,h3,h4,h5,h6,h7,h8,h9⟩:=bx_iff.1 h;refine bx_iff.2 ⟨h1,h2,h3,h4,by rw [fmL_len];exact h5,h6,fun m hm=>?_,?_,?_⟩
  ·rw [fmL,if_pos rfl] at hm
   obtain ⟨x,hx,rfl⟩:=List.mem_map.1 hm;have hx':=h7 x hx
   split
   ·exact ⟨fgm_ok hx'.1,hx'.2.1,hx'.2.2⟩
   exact hx'
  ·rw [fmL,if_pos rfl]
   unfold Upr;rw [List.pairwise_map];refine h8.imp (fun {x y} hxy=>?_)
   have e:∀ z:M4,(if z.1=gid then fgm z n st sb else z).2.1=z.2.1:=fun z=>by split <;> rfl
   rw [e,e];exact hxy
  unfold uq at h9 ⊢;rw [fmL,if_pos rfl,List.map_map]
  have e:((fun m:M4=>m.1) ∘ fun m=>if m.1=gid then fgm m n st sb else m)=fun m:M4=>m.1:=by
   funext z
   simp only [Function.comp]
   split <;> rfl
  rw [e];exact h9
theorem inl_pin {x y:Int} {G:List Int} (h:inl y G=false) (hx:y≠x):inl y (pin x G)=false:=by
 cases hi:inl y (pin x G) with
 | false=>rfl
 | true =>
  have hmem:∀ {l:List Int},inl y l=true→y∈l:=by
   intro l
   induction l with
   | nil=>intro h;simp [inl] at h
   | cons a l ih =>
    intro h;simp only [inl,Bool.or_eq_true,decide_eq_true_eq] at h
    rcases h with h | h
    ·rw [h];exact List.mem_cons_self ..
    exact List.mem_cons_of_mem _ (ih h)
  have h1:=hmem hi;unfold pin at h1
  rcases List.mem_append.1 h1 with h1 | h1
  ·exact absurd rfl (inl_not h y (List.mem_filter.1 h1).1)
  rcases List.mem_cons.1 h1 with h1 | h1
  ·exact absurd h1 hx
  exact absurd rfl (inl_not h y (List.mem_filter.1 h1).1)
theorem asc_of {G:List Int} {a:Int} (hp:G.Pairwise (·<·)) (hg:∀ y∈G,gok y=true) (ha:∀ y∈G,a<y):asc a G=true:=by
 induction G generalizing a with
 | nil=>rfl
 | cons x G ih =>
  obtain ⟨h1,h2⟩:=List.pairwise_cons.1 hp;simp only [asc,Bool.and_eq_true,decide_eq_true_eq];exact ⟨⟨ha x (List.mem_cons_self ..),hg x (List.mem_cons_self ..)⟩,ih h2 (fun y hy=>hg y (List.mem_cons_of_mem _ hy)) h1⟩
theorem asc_gok {G:List Int} {a:Int} (h:asc a G=true):∀ y∈G,gok y=true:=by
 induction G generalizing a with
 | nil=>intro y hy;simp at hy
 | cons x G ih =>
  simp only [asc,Bool.and_eq_true,decide_eq_true_eq] at h;intro y hy
  rcases List.mem_cons.1 hy with rfl | hy
  ·exact h.1.2
  exact ih h.2 y hy
theorem pin_gn {x:Int} {G:List Int} (h:gnOk G=true) (hx:gok x=true) (hn:∀ y∈G,y≠x) (hl:G.length<40):gnOk (pin x G)=true∧(pin x G).length=G.length+1:=by
 simp only [gnOk,Bool.and_eq_true,decide_eq_true_eq] at h ⊢;have hp:=asc_pair h.1;have hk:=asc_gok h.1
 have hlen:(pin x G).length=G.length+1:=by
  rw [pin_place hp hn];rw [List.length_append,List.length_cons,List.length_take,List.length_drop];have:=List.countP_le_length (p:=fun y=>decide (y<x)) (l:=G)
  omega
 refine ⟨⟨asc_of ?_ ?_ ?_,by rw [hlen];omega⟩,hlen⟩
 ·unfold pin
  rw [List.pairwise_append,List.pairwise_cons];refine ⟨hp.filter _,⟨fun y hy=>by simpa using (List.mem_filter.1 hy).2,hp.filter _⟩,fun y hy z hz=>?_⟩
  have h1:y<x:=by simpa using (List.mem_filter.1 hy).2
  rcases List.mem_cons.1 hz with rfl | hz
  ·exact h1
  have h2:x<z:=by simpa using (List.mem_filter.1 hz).2
  omega
 ·intro y hy
  unfold pin at hy
  rcases List.mem_append.1 hy with hy | hy
  ·exact hk y (List.mem_filter.1 hy).1
  rcases List.mem_cons.1 hy with rfl | hy
  ·exact hx
  exact hk y (List.mem_filter.1 hy).1
 intro y hy
 have:gok y=true:=by
  unfold pin at hy
  rcases List.mem_append.1 hy with hy | hy
  ·exact hk y (List.mem_filter.1 hy).1
  rcases List.mem_cons.1 hy with rfl | hy
  ·exact hx
  exact hk y (List.mem_filter.1 hy).1
 exact gok_pos this
theorem tk_right {g:Int} {nm:ByteArray} {t b nx:Int} {L:List M4} {G:List Int} {gid:Int} (h:bxOk g nm t b nx L G=true):bxOk g nm t b nx (tkL (tkOk g nm t b nx L G gid) L gid) (tkG (tkOk g nm t b nx L G gid) G gid)=true:=by
 cases hk:tkOk g nm t b nx L G gid with
 | false=>rw [tkL_no,tkG_no];exact h
 | true =>
  simp only [tkOk,Bool.and_eq_true,decide_eq_true_eq] at hk;obtain ⟨h1,h2,h3,h4,h5,h6,h7,h8,h9⟩:=bx_iff.1 h;obtain ⟨A,m,C,hL,hm,hA,hC⟩:=any_split h9 hk.2.1
  have hmem:m∈L:=by rw [hL];simp
  have hmm:=h7 m hmem
  have hgk:gok gid=true:=by
   have:=hmm.1;simp only [mlOk,Bool.and_eq_true] at this;rw [← hm];exact this.1
  have hni:∀ y∈G,y≠gid:=by rw [← hm];exact inl_not hmm.2.2
  have hsub:=tk_sub true L gid;rw [tkG,if_pos rfl];refine bx_iff.2 ⟨h1,h2,h3,h4,Nat.le_trans hsub.length_le h5,(pin_gn h6 hgk hni hk.2.2).1,fun x hx=>?_,upr_sub hsub h8,?_⟩
  ·have hx':=h7 x (hsub.subset hx)
   refine ⟨hx'.1,hx'.2.1,inl_pin hx'.2.2 ?_⟩;rw [tkL,if_pos rfl] at hx
   simpa using (List.mem_filter.1 hx).2
  unfold uq at h9 ⊢;simp only [decide_eq_true_eq] at h9 ⊢;exact h9.sublist (hsub.map _)
theorem am_right {g:Int} {nm:ByteArray} {t b nx:Int} {L:List M4} {G:List Int} {gid fl:Int} {tx:ByteArray} {st sb:Int} (h:bxOk g nm t b nx L G=true):bxOk g nm t b (amN (amOk g nm t b nx L G gid fl tx st sb) nx) (amL (amOk g nm t b nx L G gid fl tx st sb) L (nwm gid nx fl tx st sb)) G=true:=by
 cases hk:amOk g nm t b nx L G gid fl tx st sb with
 | false=>rw [amN,amL,if_neg (by decide),if_neg (by decide)];exact h
 | true =>
  rw [amN,amL,if_pos rfl,if_pos rfl];simp only [amOk,Bool.and_eq_true] at hk;exact hk.2.2.2.2
theorem fidx_first {α:Type} {p:α→Bool} (S:List α) (i k:Nat) (hi:i<S.length) (h1:∀ j (hj:j<i),p (S[j]'(Nat.lt_trans hj hi))=false) (h2:p S[i]=true):fidx p S k=((k+i:Nat):Int):=by
 induction S generalizing i k with
 | nil=>simp at hi
 | cons x S ih =>
  cases i with
  | zero =>
   have h3:p x=true:=h2
   simp [fidx,h3]
  | succ i =>
   have h3:p x=false:=h1 0 (by omega);have h4:=ih i (k+1) (by simpa using hi) (fun j hj=>by have:=h1 (j+1) (by omega);simpa using this) (by simpa using h2);simp only [fidx,h3];rw [if_neg (by decide),h4]
   congr 1
   omega
theorem fidx_before {α:Type} {p:α→Bool} (S:List α) (i k:Nat) (h:fidx p S k=((k+i:Nat):Int)):∀ j (_:j<i) (hl:j<S.length),p S[j]=false:=by
 induction S generalizing i k with
 | nil=>intro j hj hl;simp at hl
 | cons x S ih =>
  intro j hj hl
  cases hx:p x with
  | true =>
   simp only [fidx,hx,if_true] at h
   omega
  | false =>
   simp only [fidx,hx] at h;rw [if_neg (by decide)] at h
   cases j with
   | zero=>exact hx
   | succ j=>exact ih (i - 1) (k+1) (by rw [h];congr 1;omega) j (by omega) (by simpa using hl)
theorem sOk_iff {y tm:Int} {S:List X7} {G:List Int}:sOk y tm S G=true↔((1≤y∧y≤2)∧(0≤tm∧tm≤100000)∧S.length≤5∧gnM 20 G=true∧(gids S).Nodup∧(∀ x∈S,bxx x=true∧inl x.1 G=false∧tmOk tm x.2.2.1 x.2.2.2.2.2.1=true)∧S.Pairwise (fun a b=>a.1<b.1)∧S.Pairwise (fun a b=>a.2.1≠b.2.1)):=by
 constructor
 ·intro h
  have hpw:=sOk_pw h;obtain ⟨_,_,h3,_⟩:=sOk_all h;unfold sOk at h;simp only [Bool.and_eq_true,decide_eq_true_eq] at h;obtain ⟨ha,hb,hc,hd,_,he⟩:=h;refine ⟨ha,hb,by omega,hd,he,fun x hx=>?_,hpw,?_⟩
  ·obtain ⟨i,hi,rfl⟩:=List.getElem_of_mem hx
   have h4:=stp7_all h3 hi;exact ⟨h4.1,h4.2.2.2.1,h4.2.2.2.2⟩
  rw [List.pairwise_iff_getElem];intro i j hi hj hij e;have h4:=(stp7_all h3 hj).2.2.1;have h5:=fidx_before S j 0 (by rw [h4];simp) i hij hi
  simp [isN,e] at h5
 rintro ⟨ha,hb,hc,hd,he,hf,hg,hn⟩;unfold sOk;simp only [Bool.and_eq_true,decide_eq_true_eq];refine ⟨ha,hb,by omega,hd,List.all_eq_true.2 (fun i hi=>?_),he⟩;have hi:=List.mem_range.1 hi;obtain ⟨h1,h2,h3⟩:=hf S[i] (List.getElem_mem hi)
 have hpg:pg S i<S[i].1:=by
  cases i with
  | zero =>
   rw [pg_zero];simp only [bxx,bxOk,Bool.and_eq_true] at h1;exact gok_pos h1.1
  | succ i =>
   rw [pg_succ (by omega)];exact (List.pairwise_iff_getElem.1 hg) i (i+1) (by omega) hi (by omega)
 have hfi:fidx (isN S[i].2.1) S 0=(i:Int):=by
  rw [fidx_first S i 0 hi (fun j hj=>?_) (by simp [isN])]
  ·simp
  have:=(List.pairwise_iff_getElem.1 hn) j i (by omega) hi hj
  simp [isN,this]
 unfold stp7;rw [List.getElem?_eq_getElem hi];simp only [h1,hpg,hfi,h2,h3,decide_true,Bool.not_false,Bool.and_self]
theorem isG_at {S:List X7} {gid:Int} {i:Nat} (hi:i<S.length) (h:isG gid S[i]=true):S[i].1=gid:=by simpa [isG] using h
theorem split_at {S:List X7} {i:Nat} (hi:i<S.length):S=S.take i++S[i]::S.drop (i+1):=by
 rw [← List.drop_eq_getElem_cons hi,List.take_append_drop]
theorem dropB_right {y tm:Int} {S:List X7} {G:List Int} {gid:Int}:(sOk y tm S G&&(dbO S gid&&decide (G.length<20)))=(sOk y tm S G&&(dbO S gid&&sOk y tm (dbS S gid) (pin gid G))):=by
 cases hs:sOk y tm S G with
 | false=>rfl
 | true =>
  rcases fidx_cases (isG gid) S 0 with hneg | ⟨i,hi,hiz,hpi⟩
  ·rw [(db_no hneg).1];rfl
  rw [Nat.zero_add] at hiz;rw [(db_at hiz).1,(db_at hiz).2];simp only [Bool.true_and];obtain ⟨ha,hb,hc,hd,he,hf,hg,hn⟩:=sOk_iff.1 hs;have hk:=isG_at hi hpi;have h0:=hf S[i] (List.getElem_mem hi);rw [hk] at h0
  have hgk:gok gid=true:=by
   have:=h0.1;simp only [bxx,bxOk,Bool.and_eq_true,hk] at this;exact this.1
  have hgp:=gnM_parts hd
  have hne:∀ z∈G,z≠gid:=by
   intro z hz e;subst e;have h5:=h0.2.1
   have h6:inl z G=true:=by
    clear hd hgp h0 h5 hs hf
    induction G with
    | nil=>cases hz
    | cons a G ih =>
     rcases List.mem_cons.1 hz with rfl | hz
     ·simp [inl]
     simp [inl,ih hz]
   rw [h6] at h5
   cases h5
  have hpn:=pin_gn (x:=gid) (G:=G) (by rw [gnOk,hgp.1];simp;omega) hgk hne (by omega)
  have hasc:asc 0 (pin gid G)=true:=by
   have:=hpn.1;rw [gnOk,Bool.and_eq_true] at this;exact this.1
  have hgn:gnM 20 (pin gid G)=decide (G.length<20):=by
   rw [gnM,hasc,hpn.2];simp only [Bool.true_and]
   congr 1
   apply propext
   omega
  have hsub:(S.take i++S.drop (i+1)).Sublist S:=List.Sublist.trans ((List.Sublist.refl (S.take i)).append (List.drop_sublist_drop_left S (Nat.le_succ i))) (by rw [List.take_append_drop];exact List.Sublist.refl _)
  cases hl:decide (G.length<20) with
  | false =>
   symm
   cases hr:sOk y tm (S.take i++S.drop (i+1)) (pin gid G) with
   | false=>rfl
   | true =>
    have:=(sOk_iff.1 hr).2.2.2.1;rw [hgn,hl] at this
    cases this
  | true =>
   symm
   have hsp:=split_at hi;rw [hsp] at hg;have hga:=List.pairwise_append.1 hg;have hgb:=List.pairwise_cons.1 hga.2.1;refine sOk_iff.2 ⟨ha,hb,Nat.le_trans hsub.length_le hc,by rw [hgn,hl],?_,fun x hx=>?_,List.Pairwise.sublist hsub (by rw [hsp];exact hg),List.Pairwise.sublist hsub hn⟩
   ·refine List.Nodup.sublist ?_ he
    have e:gids S=gids (S.take i++S[i]::S.drop (i+1)):=by rw [← hsp]
    rw [e];unfold gids;rw [List.flatMap_append,List.flatMap_append,List.flatMap_cons];exact (List.Sublist.refl _).append (List.sublist_append_right _ _)
   have h5:=hf x (hsub.subset hx);refine ⟨h5.1,inl_pin h5.2.1 (fun e=>?_),h5.2.2⟩
   rcases List.mem_append.1 hx with hx | hx
   ·have:=hga.2.2 x hx S[i] (List.mem_cons_self ..)
    omega
   have:=hgb.1 x hx
   omega
theorem dropM_right {y tm:Int} {S:List X7} {G:List Int} {box gid:Int}:(sOk y tm S G&&(chB S box (dmK gid) (dmF gid)).1)=(sOk y tm S G&&((chB S box (dmK gid) (dmF gid)).1&&sOk y tm (chB S box (dmK gid) (dmF gid)).2 G)):=by
 cases hs:sOk y tm S G with
 | false=>rfl
 | true =>
  rcases fidx_cases (isG box) S 0 with hneg | ⟨i,hi,hiz,hpi⟩
  ·rw [chB_no hneg];rfl
  rw [Nat.zero_add] at hiz;rw [chB_at (ok:=dmK gid) (f:=dmF gid) hiz hi rfl];simp only [Bool.true_and]
  cases hk:dmK gid S[i] with
  | false=>rfl
  | true =>
   simp only [Bool.true_and]
   symm
   obtain ⟨ha,hb,hc,hd,he,hf,hg,hn⟩:=sOk_iff.1 hs;have h0:=hf S[i] (List.getElem_mem hi);have hsp:=split_at hi
   have hset:S.set i (dmF gid S[i])=S.take i++dmF gid S[i]::S.drop (i+1):=by rw [List.set_eq_take_append_cons_drop,if_pos hi]
   have hm1:(S.set i (dmF gid S[i])).map (fun x=>x.1)=S.map (fun x=>x.1):=by
    rw [List.map_set]
    have:(dmF gid S[i]).1=(S.map (fun x=>x.1))[i]'(by simpa using hi):=by simp [dmF]
    rw [this,List.set_getElem_self]
   have hm2:(S.set i (dmF gid S[i])).map (fun x=>x.2.1)=S.map (fun x=>x.2.1):=by
    rw [List.map_set]
    have:(dmF gid S[i]).2.1=(S.map (fun x=>x.2.1))[i]'(by simpa using hi):=by simp [dmF]
    rw [this,List.set_getElem_self]
   refine sOk_iff.2 ⟨ha,hb,by rw [List.length_set];exact hc,hd,?_,fun x hx=>?_,?_,?_⟩
   ·refine List.Nodup.sublist ?_ he
    have e:gids S=gids (S.take i++S[i]::S.drop (i+1)):=by rw [← hsp]
    rw [e,hset];unfold gids;rw [List.flatMap_append,List.flatMap_append,List.flatMap_cons,List.flatMap_cons];refine (List.Sublist.refl _).append (List.Sublist.append ?_ (List.Sublist.refl _));exact List.Sublist.map _ (tk_sub _ _ _)
   ·rcases mem_set hx with hx | rfl
    ·exact hf x hx
    refine ⟨?_,h0.2.1,?_⟩
    ·exact tk_right h0.1
    have h5:=h0.2.2;simp only [tmOk,Bool.and_eq_true] at h5 ⊢;refine ⟨h5.1,List.all_eq_true.2 (fun m hm=>List.all_eq_true.1 h5.2 m ((tk_sub _ _ _).subset hm))⟩
   ·rw [← List.pairwise_map (f:=fun x:X7=>x.1) (R:=fun a b=>a<b),hm1,List.pairwise_map];exact hg
   rw [← List.pairwise_map (f:=fun x:X7=>x.2.1) (R:=fun a b=>a≠b),hm2,List.pairwise_map];exact hn
theorem sameInts_any (l1 h1 l2 h2:Nat) (ao bo:Option Addr) (n ca cb:Nat) (G:List Int) (w:World) (hl:G.length=n) (hn:n≤1048576) (ha:Is l1 h1 w ao G) (hb:Is l2 h2 w bo G) :
  Calls Tryz.prog 67 #[.slice ao n ca,.slice bo n cb] w fun e w'=>e=.returned (.bool true)∧Below w.heap.size w w':=by
 have hnn:((n:Int) != (n:Int))=false:=by simp
 have HA:=hid ha;have HB:=hid hb;have HL:=hid hl;clear ha hb hl
 go_enter Tryz.func67,Tryz.ntmps67
 go_wp2
 clear hnn
 go_loopw [5] (fun iv wr=>∃ i:Nat,i≤n∧iv=.int .i64 (i:Int)∧Below w.heap.size w wr) (fun iv _=>n - (intOf iv).toNat)
 case atStart=>exact ⟨0,Nat.zero_le _,rfl,bre _⟩
 case round =>
  obtain ⟨i,hi,rfl,hb⟩:=hrel;have HBE:=hid hb;clear hb
  by_cases hlt:i<n
  ·have hil:i<G.length:=by rw [HL.out];exact hlt
   obtain ⟨k,o,rfl,hk,c⟩:=(HA.out.later HBE.out).at hil;obtain ⟨k',o',rfl,hk',d⟩:=(HB.out.later HBE.out).at hil;obtain ⟨x,hx⟩:∃ x,G[i]=x:=⟨_,rfl⟩;rw [hx] at c d;clear hx
   have hI:(0:Int)≤(i:Int)∧(i:Int)<(n:Int):=by omega
   have hxx:(x != x)=false:=by simp
   go_wp2_with fail
   go_quiet (fail)
   go_wp2
   go_roundw
   case rel=>exact ⟨i+1,by omega,by go_num,bdn HBE.out _⟩
   case measure=>simp [intOf];omega
  go_wp2
  go_ret
  exact ⟨rfl,HBE.out⟩
theorem smail_self (g u:Int) (l:List R3) (t:ByteArray):smail g u l t g u l t=true:=by simp [smail]
theorem sameBox_any (l1 h1 l2 h2 l3 h3 l4 h4:Nat) (g:Int) (nm:ByteArray) (t b nx:Int) (ma:Option Addr) (mn mc:Nat) (ga:Option Addr) (gn gc:Nat) (ma':Option Addr) (mc':Nat) (ga':Option Addr) (gc':Nat) (L:List M4) (G:List Int) (w:World) (hl:L.length=mn) (hn:mn≤1048576) (hsm:Sm L) (hm:Ms l1 h1 w ma L) (hm':Ms l2 h2 w ma' L)
  (hgl:G.length=gn) (hgn:gn≤1048576) (hs:Is l3 h3 w ga G) (hs':Is l4 h4 w ga' G) :
  Calls Tryz.prog 20 #[.agg #[.int .i64 g,.string nm,.int .i64 t,.int .i64 b,.int .i64 nx,.slice ma mn mc,.slice ga gn gc],.agg #[.int .i64 g,.string nm,.int .i64 t,.int .i64 b,.int .i64 nx,.slice ma' mn mc',.slice ga' gn gc']] w fun e w'=>e=.returned (.bool true)∧Below w.heap.size w w':=by
 obtain ⟨W0,hW0⟩:∃ W0,((w.alloc (.cells #[.int .i64 g,.string nm,.int .i64 t,.int .i64 b,.int .i64 nx,.slice ma mn mc,.slice ga gn gc] 38)).alloc (.cells #[.int .i64 g,.string nm,.int .i64 t,.int .i64 b,.int .i64 nx,.slice ma' mn mc',.slice ga' gn gc'] 38))=W0:=⟨_,rfl⟩;obtain ⟨a0,a1,b0,_⟩:=two_boxes w _ _ _ _ _ _ _ _ _ _ _ _ _ _ _ _ W0 hW0;have A0:=hid a0;have A1:=hid a1;have B0:=hid b0;have c0:=a0.cells;have c1:=a1.cells;have HM:=hid hm;have HM':=hid hm';have HS:=hid hs;have HS':=hid hs';have HX:=hid hsm;have HL:=hid hl
 have e1:(g != g)=false:=by simp
 have e2:(nx != nx)=false:=by simp
 have e3:(!nm.toList == nm.toList)=false:=by simp
 have e4:(t != t)=false:=by simp
 have e5:(b != b)=false:=by simp
 have e6:((mn:Int) != (mn:Int))=false:=by simp
 clear a0 a1 b0 hm hm' hs hs' hsm hl
 go_enter Tryz.func20,Tryz.ntmps20
 go_wp2_with fail
 clear hW0;refine (sameInts_any l3 h3 l4 h4 ga ga' gn gc gc' G _ hgl hgn (HS.out.later B0.out) (HS'.out.later B0.out)).mono ?_;rintro e w1 ⟨rfl,hb1⟩;have K0:=hid (A0.out.later hb1);have K1:=hid (A1.out.later hb1);have B1:=hid (btr B0.out hb1);clear hb1 A0 A1 B0 c0 c1 e1 e2 e3 e4 e5 e6
 go_wp2
 go_loopw [5] (fun iv wr=>∃ i:Nat,i≤mn∧iv=.int .i64 (i:Int)∧Bx wr w.heap.size 38 g nm t b nx (.slice ma mn mc) (.slice ga gn gc)∧Bx wr (w.heap.size+1) 38 g nm t b nx (.slice ma' mn mc') (.slice ga' gn gc')∧Below w.heap.size w wr) (fun iv _=>mn - (intOf iv).toNat)
 case atStart=>exact ⟨0,Nat.zero_le _,rfl,K0.out,K1.out,B1.out⟩
 case round =>
  obtain ⟨i,hi,rfl,hk0,hk1,hb⟩:=hrel;have A0:=hid hk0;have A1:=hid hk1;have HBE:=hid hb;have c0:=hk0.cells;clear hk0 hk1 hb K0 K1 B1
  by_cases hlt:i<mn
  ·have hil:i<L.length:=by rw [HL.out];exact hlt
   obtain ⟨k,o,fa,fc,rfl,hk,c,hr1,_⟩:=(HM.out.later HBE.out).at hil;obtain ⟨k',o',fa',fc',rfl,hk',d,hr2,_⟩:=(HM'.out.later HBE.out).at hil;have hmem:=HX.out L[i] (List.getElem_mem hil);obtain ⟨p,hp⟩:∃ p,L[i]=p:=⟨_,rfl⟩;rw [hp] at c d hr1 hr2 hmem;obtain ⟨g2,u,l,tx⟩:=p;dsimp only at c d hr1 hr2 hmem;obtain ⟨m,hm⟩:∃ m,l.length=m:=⟨_,rfl⟩;rw [hm] at c d
   have HMM:Hid (m≤1048576):=by show _≤_;rw [← hm];exact hmem.1
   have HLM:=hid hm;have HR1:=hid hr1;have HR2:=hid hr2;clear hp hm hmem hr1 hr2
   have hI:(0:Int)≤(i:Int)∧(i:Int)<(mn:Int):=by omega
   have HSS:Hid (∀ W,Below wr.heap.size wr W→((W.cell? ⟨w.heap.size,5,none⟩=some (.slice (some ⟨k,o,none⟩) mn mc)∧W.cell? ⟨w.heap.size+1,5,none⟩=some (.slice (some ⟨k',o',none⟩) mn mc'))∧W.cell? ⟨k,o+i*4,none⟩=some (.int .i64 g2)∧W.cell? ⟨k,o+i*4+1,none⟩=some (.int .i64 u)∧W.cell? ⟨k,o+i*4+2,none⟩=some (.slice fa m fc)∧W.cell? ⟨k,o+i*4+3,none⟩=some (.string tx))∧(W.cell? ⟨k',o'+i*4,none⟩=some (.int .i64 g2)∧W.cell? ⟨k',o'+i*4+1,none⟩=some (.int .i64 u)∧W.cell? ⟨k',o'+i*4+2,none⟩=some (.slice fa' m fc')∧W.cell? ⟨k',o'+i*4+3,none⟩=some (.string tx))) :=
    fun W h=>⟨⟨⟨(A0.out.later h).cells.2.2.2.2.2.1,(A1.out.later h).cells.2.2.2.2.2.1⟩,C4.later c hk h⟩,C4.later d hk' h⟩
   clear c d
   go_wp2_with fail
   go_region_held3 (fun W=>((W.cell? ⟨w.heap.size,5,none⟩=some (.slice (some ⟨k,o,none⟩) mn mc)∧W.cell? ⟨w.heap.size+1,5,none⟩=some (.slice (some ⟨k',o',none⟩) mn mc'))∧W.cell? ⟨k,o+i*4,none⟩=some (.int .i64 g2)∧W.cell? ⟨k,o+i*4+1,none⟩=some (.int .i64 u)∧W.cell? ⟨k,o+i*4+2,none⟩=some (.slice fa m fc)∧W.cell? ⟨k,o+i*4+3,none⟩=some (.string tx))∧(W.cell? ⟨k',o'+i*4,none⟩=some (.int .i64 g2)∧W.cell? ⟨k',o'+i*4+1,none⟩=some (.int .i64 u)∧W.cell? ⟨k',o'+i*4+2,none⟩=some (.slice fa' m fc')∧W.cell? ⟨k',o'+i*4+3,none⟩=some (.string tx)))
    ((refine HSS.out _ ?_;repeat (first | exact bdr (bre _) | refine btr ?_ (by assumption))))
    ((go_at_call 68;refine (specSame_any g2 u fa m fc l tx g2 u fa' m fc' l tx _ HLM.out HLM.out HMM.out (HR1.out.later (by repeat (first | exact bdr (bre _) | exact bre _ | refine btr ?_ (by assumption)))) (HR2.out.later (by repeat (first | exact bdr (bre _) | exact bre _ | refine btr ?_ (by assumption))))).mono ?_;rintro e w1 ⟨rfl,hb1⟩;rw [smail_self]))
   have HB1:Hid (Below wr.heap.size wr w1):=by show Below _ _ _;repeat (first | exact bdr (bre _) | refine btr ?_ (by assumption))
   clear c0
   go_wp2
   go_roundw
   case rel=>exact ⟨i+1,by omega,by go_num,A0.out.later HB1.out,A1.out.later HB1.out,btr HBE.out HB1.out⟩
   case measure=>simp [intOf];omega
  go_wp2
  go_ret
  exact ⟨rfl,HBE.out⟩
def gdm (m:M4):Prop:=(10≤m.1∧m.1≤18)∧∀ p∈m.2.2.1,gd p
structure Dbx (k:Nat) (g:Int) (nm:ByteArray) (t b nx:Int) (L:List M4) (G:List Int):Prop where
 right:bxOk g nm t b nx L G=true
 next:nx≤4+(k:Int)
 gone:G.length≤k
 each:∀ m∈L,gdm m
 out:∀ x∈G,10≤x∧x≤18
section
variable {k:Nat} {g:Int} {nm:ByteArray} {t b nx:Int} {L:List M4} {G:List Int}
theorem Dbx.mono {k':Nat} (h:Dbx k g nm t b nx L G) (hk:k≤k'):Dbx k' g nm t b nx L G :=
 ⟨h.right,by have:=h.next;omega,Nat.le_trans h.gone hk,h.each,h.out⟩
theorem gd_fnew {fl st sb:Int} (hs:0≤st∧st<12∧1≤sb∧sb≤2):∀ p∈fnew fl st sb,gd p:=by
 intro p hp;simp only [fnew,List.mem_cons,List.not_mem_nil,or_false] at hp;have h0:=bit_le fl 0;have h1:=bit_le fl 1;have h2:=bit_le fl 2
 rcases hp with rfl | rfl | rfl
 ·exact ⟨⟨h0.1,by omega⟩,hs⟩
 ·exact ⟨⟨h1.1,by omega⟩,hs⟩
 exact ⟨⟨h2.1,by omega⟩,hs⟩
theorem gd_sl {l:List R3} {n st sb:Int} (hs:0≤st∧st<12∧1≤sb∧sb≤2) (h:∀ p∈l,gd p):∀ p∈sl l n st sb,gd p:=by
 intro p hp;unfold sl at hp
 split at hp
 ·obtain ⟨i,hi,rfl⟩:=List.mem_mapIdx.1 hp
  have ho:=h l[i] (List.getElem_mem hi);unfold sp
  split
  ·exact ho
  unfold pp
  split
  ·have h0:=bit_le n i
   exact ⟨⟨h0.1,by show bit n i<2;omega⟩,hs⟩
  exact ho
 exact h p hp
theorem Dbx.add {gid fl:Int} {tx:ByteArray} {st sb:Int} (h:Dbx k g nm t b nx L G) (hg:10≤gid∧gid≤18) (hs:0≤st∧st<12∧1≤sb∧sb≤2) :
  Dbx (k+1) g nm t b (amN (amOk g nm t b nx L G gid fl tx st sb) nx) (amL (amOk g nm t b nx L G gid fl tx st sb) L (nwm gid nx fl tx st sb)) G:=by
 refine ⟨am_right h.right,?_,Nat.le_succ_of_le h.gone,fun m hm=>?_,h.out⟩
 ·have:=h.next
  unfold amN
  split <;> omega
 unfold amL at hm
 split at hm
 ·rcases List.mem_append.1 hm with hm | hm
  ·exact h.each m hm
  simp only [List.mem_cons,List.not_mem_nil,or_false] at hm;subst hm;exact ⟨hg,gd_fnew hs⟩
 exact h.each m hm
theorem Dbx.flag {p:Bool} {gid n st sb:Int} (h:Dbx k g nm t b nx L G) (hs:0≤st∧st<12∧1≤sb∧sb≤2) :
  Dbx (k+1) g nm t b nx (fmL p L gid n st sb) G:=by
 refine ⟨fm_right h.right,by have:=h.next;omega,Nat.le_succ_of_le h.gone,fun m hm=>?_,h.out⟩;unfold fmL at hm
 split at hm
 ·obtain ⟨x,hx,rfl⟩:=List.mem_map.1 hm
  have hx':=h.each x hx
  split
  ·exact ⟨hx'.1,gd_sl hs hx'.2⟩
  exact hx'
 exact h.each m hm
theorem Dbx.take {gid:Int} (h:Dbx k g nm t b nx L G) (hg:10≤gid∧gid≤18) :
  Dbx (k+1) g nm t b nx (tkL (tkOk g nm t b nx L G gid) L gid) (tkG (tkOk g nm t b nx L G gid) G gid):=by
 refine ⟨tk_right h.right,by have:=h.next;omega,?_,fun m hm=>h.each m ((tk_sub _ L gid).subset hm),fun x hx=>?_⟩
 ·unfold tkG
  split
  ·next hk =>
   simp only [tkOk,Bool.and_eq_true,decide_eq_true_eq] at hk;obtain ⟨h1,h2,h3,h4,h5,h6,h7,h8,h9⟩:=bx_iff.1 h.right;obtain ⟨A,m,C,hL,hm,hA,hC⟩:=any_split h9 hk.2.1;have hmm:=h7 m (by rw [hL];simp)
   have hgk:gok gid=true:=by
    have:=hmm.1;simp only [mlOk,Bool.and_eq_true] at this;rw [← hm];exact this.1
   have hni:∀ y∈G,y≠gid:=by rw [← hm];exact inl_not hmm.2.2
   rw [(pin_gn h6 hgk hni hk.2.2).2];have:=h.gone
   omega
  exact Nat.le_succ_of_le h.gone
 unfold tkG at hx
 split at hx
 ·unfold pin at hx
  rcases List.mem_append.1 hx with hx | hx
  ·exact h.out x (List.mem_filter.1 hx).1
  rcases List.mem_cons.1 hx with rfl | hx
  ·exact hg
  exact h.out x (List.mem_filter.1 hx).1
 exact h.out x hx
end
theorem dbx_start {nm:ByteArray} {t b:Int} (y:Nat) (hn:nmOk nm=true) (hs:0≤t∧t<12∧1≤b∧b≤2) (hy:y<4):Dbx 0 7 nm t b (1+(y:Int)) [] []:=by
 refine ⟨bx_iff.2 ⟨by decide,hn,by simp only [stOk,decide_eq_true_eq];omega,⟨by omega,by omega⟩,by simp,by decide,fun m hm=>by simp at hm,List.Pairwise.nil,by decide⟩,by omega,by simp,fun m hm=>by simp at hm,fun x hx=>by simp at hx⟩
theorem Dbx.sm {k:Nat} {g:Int} {nm:ByteArray} {t b nx:Int} {L:List M4} {G:List Int} (h:Dbx k g nm t b nx L G):L.length≤10∧G.length≤40∧Sm L∧nm.size≤12:=by
 obtain ⟨h1,h2,h3⟩:=bx_small h.right;refine ⟨h1,h2,fun m hm=>?_,?_⟩
 ·have:=h3 m hm
  omega
 have:=(bx_iff.1 h.right).2.1;simp only [nmOk,Bool.and_eq_true,decide_eq_true_eq] at this
 omega
theorem own_none {W:World} {B e size n c m:Nat} {a:Option Addr} {xs:List Value} (h:W.ownsRow B e size (.slice a n c) m xs):a=none→c=0:=by
 intro ha;subst ha
 rcases h.2 with ⟨h1,_⟩ | ⟨g,cap,cur,h1,_⟩
 ·simpa using congrArg (fun v=>match v with | .slice _ _ c=>c | _=>0) h1
 simp at h1
theorem OwB.shape {W:World} {B:Nat} {mv gv:Value} {L:List M4} {G:List Int} (h:OwB W B mv gv L G):∃ a c a' c',mv=.slice a L.length c∧gv=.slice a' G.length c':=by
 obtain ⟨Z,rfl,h2,h3,_⟩:=h;obtain ⟨a,c,hv⟩:=h2.shape;obtain ⟨a',c',hv',_⟩:=h3.shape;exact ⟨a,c,a',c',by rw [List.length_map];exact hv,hv'⟩
theorem OwB.none {W:World} {B n c n' c':Nat} {a a':Option Addr} {L:List M4} {G:List Int} (h:OwB W B (.slice a n c) (.slice a' n' c') L G):(a=none→c=0)∧(a'=none→c'=0):=by
 obtain ⟨Z,_,h2,h3,_⟩:=h;exact ⟨own_none h2.row,own_none h3⟩
theorem OwB.nil (W:World) (B:Nat):OwB W B (.slice .none 0 0) (.slice .none 0 0) [] [] :=
 ⟨[],rfl,⟨World.ownsRow_nil _ _ _ _,fun z hz=>by simp at hz,fun z hz=>by simp at hz,List.Pairwise.nil⟩,World.ownsRow_nil _ _ _ _,Dj.nil _,fun z hz=>by simp at hz⟩
section
variable {k:Nat} {g:Int} {nm:ByteArray} {t b nx:Int} {L:List M4} {G:List Int}
theorem add_l (h:Dbx k g nm t b nx L G) (mn gn:Nat) (hl:L.length=mn) (hgl:G.length=gn) (gid fl:Int) (tx:ByteArray) (st sb:Int) (hg:10≤gid∧gid≤18) (hs:0≤st∧st<12∧1≤sb∧sb≤2) (htx:tx.size≤1048576) :
  ∃ (p:Bool) (ny:Int) (K:List M4) (N:Nat),Hid (K.length=N)∧Hid (Dbx (k+1) g nm t b ny K G) ∧
   Hid (∀ (lo hh lo' hh':Nat) (ma:Option Addr) (mc:Nat) (ga:Option Addr) (gc:Nat) (w:World),Ms lo hh w ma L→Is lo' hh' w ga G→(ga=none→gc=0) →
     Calls Tryz.prog 131 #[.agg #[.int .i64 g,.string nm,.int .i64 t,.int .i64 b,.int .i64 nx,.slice ma mn mc,.slice ga gn gc],.int .i64 gid,.int .i64 fl,.string tx,.agg #[.int .i64 st,.int .i64 sb]] w fun e w'=>∃ a c a' c',e=.returned (.tuple #[.agg #[.int .i64 g,.string nm,.int .i64 t,.int .i64 b,.int .i64 ny,.slice a N c,.slice a' gn c'],.bool p])∧OwB w' w.heap.size (.slice a N c) (.slice a' gn c') K G∧Below w.heap.size w w'):=by
 obtain ⟨h1,h2,h3,h4⟩:=h.sm;refine ⟨amOk g nm t b nx L G gid fl tx st sb,amN (amOk g nm t b nx L G gid fl tx st sb) nx,amL (amOk g nm t b nx L G gid fl tx st sb) L (nwm gid nx fl tx st sb),_,rfl,h.add (gid:=gid) (fl:=fl) (tx:=tx) hg hs,fun lo hh lo' hh' ma mc ga gc w hm hi h0=>?_⟩;refine (specAdd_any lo hh lo' hh' g nm t b nx ma mn mc ga gn gc L G gid fl tx st sb w (by omega) hl (by omega) h3 hm hgl (by omega) hi h0 htx).mono ?_;rintro e w' ⟨mv,gv,rfl,ho,hb⟩;obtain ⟨a,c,a',c',rfl,rfl⟩:=ho.shape;rw [hgl] at ho ⊢;exact ⟨a,c,a',c',rfl,ho,hb⟩
theorem flag_l (h:Dbx k g nm t b nx L G) (mn gn:Nat) (hl:L.length=mn) (hgl:G.length=gn) (gid n st sb:Int) (hs:0≤st∧st<12∧1≤sb∧sb≤2) :
  ∃ (p:Bool) (K:List M4),Hid (K.length=mn)∧Hid (Dbx (k+1) g nm t b nx K G) ∧
   Hid (∀ (lo hh lo' hh':Nat) (ma:Option Addr) (mc:Nat) (ga:Option Addr) (gc:Nat) (w:World),Ms lo hh w ma L→Is lo' hh' w ga G→(ga=none→gc=0) →
     Calls Tryz.prog 133 #[.agg #[.int .i64 g,.string nm,.int .i64 t,.int .i64 b,.int .i64 nx,.slice ma mn mc,.slice ga gn gc],.int .i64 gid,.int .i64 n,.agg #[.int .i64 st,.int .i64 sb]] w fun e w'=>∃ a c a' c',e=.returned (.tuple #[.agg #[.int .i64 g,.string nm,.int .i64 t,.int .i64 b,.int .i64 nx,.slice a mn c,.slice a' gn c'],.bool p])∧OwB w' w.heap.size (.slice a mn c) (.slice a' gn c') K G∧Below w.heap.size w w'):=by
 obtain ⟨h1,h2,h3,h4⟩:=h.sm;refine ⟨fmOk g nm t b nx L G gid n st sb,fmL (fmOk g nm t b nx L G gid n st sb) L gid n st sb,?_,h.flag (p:=fmOk g nm t b nx L G gid n st sb) (gid:=gid) (n:=n) hs,fun lo hh lo' hh' ma mc ga gc w hm hi h0=>?_⟩
 ·show _=_
  rw [fmL_len,hl]
 refine (specFlag8_any lo hh lo' hh' g nm t b nx ma mn mc ga gn gc L G gid n st sb w (by omega) hl (by omega) h3 hm hgl (by omega) hi h0).mono ?_;rintro e w' ⟨mv,gv,rfl,ho,hb⟩;obtain ⟨a,c,a',c',rfl,rfl⟩:=ho.shape;rw [fmL_len,hl,hgl] at ho ⊢;exact ⟨a,c,a',c',rfl,ho,hb⟩
theorem take_l (h:Dbx k g nm t b nx L G) (mn gn:Nat) (hl:L.length=mn) (hgl:G.length=gn) (gid:Int) (hg:10≤gid∧gid≤18) :
  ∃ (p:Bool) (K:List M4) (H:List Int) (N M:Nat),Hid (K.length=N)∧Hid (H.length=M)∧Hid (Dbx (k+1) g nm t b nx K H) ∧
   Hid (∀ (lo hh lo' hh':Nat) (ma:Option Addr) (mc:Nat) (ga:Option Addr) (gc:Nat) (w:World),Ms lo hh w ma L→Is lo' hh' w ga G→(ga=none→gc=0) →
     Calls Tryz.prog 134 #[.agg #[.int .i64 g,.string nm,.int .i64 t,.int .i64 b,.int .i64 nx,.slice ma mn mc,.slice ga gn gc],.int .i64 gid] w fun e w'=>∃ a c a' c',e=.returned (.tuple #[.agg #[.int .i64 g,.string nm,.int .i64 t,.int .i64 b,.int .i64 nx,.slice a N c,.slice a' M c'],.bool p])∧OwB w' w.heap.size (.slice a N c) (.slice a' M c') K H∧Below w.heap.size w w'):=by
 obtain ⟨h1,h2,h3,h4⟩:=h.sm;refine ⟨tkOk g nm t b nx L G gid,tkL (tkOk g nm t b nx L G gid) L gid,tkG (tkOk g nm t b nx L G gid) G gid,_,_,rfl,rfl,h.take (gid:=gid) hg,fun lo hh lo' hh' ma mc ga gc w hm hi h0=>?_⟩;refine (specTake_any lo hh lo' hh' g nm t b nx ma mn mc ga gn gc L G gid w (by omega) hl (by omega) h3 hm hgl (by omega) hi h0).mono ?_;rintro e w' ⟨mv,gv,rfl,ho,hb⟩;obtain ⟨a,c,a',c',rfl,rfl⟩:=ho.shape;exact ⟨a,c,a',c',rfl,ho,hb⟩
end
end Go.Proofs.YtdkedgedkgabnaaGreatDoor
