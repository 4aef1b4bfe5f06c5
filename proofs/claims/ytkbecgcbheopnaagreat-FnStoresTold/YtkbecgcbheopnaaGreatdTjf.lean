/- Bqq, Tjf, Sbx. -/

import Derived.Test.YtkbecgcbheopnaaGreatdTiw
namespace Go.Proofs.YtkbecgcbheopnaaGreat
open Go.RowKit Go.ChangeMaps
theorem bx_iff {g:Int} {nm:ByteArray} {t b nx:Int} {L:List M4} {G:List Int}:bxOk g nm t b nx L G=true ↔
  gok g=true∧nmOk nm=true∧stOk t b=true∧(1≤nx∧nx≤10000)∧L.length≤10∧gnOk G=true∧(∀ m∈L,mlOk m.1 m.2.1 m.2.2.1 m.2.2.2=true∧m.2.1<nx∧inl m.1 G=false)∧Upr L∧uq L=true:=by
 constructor
 ·intro h
  have hp:=bx_parts h
  simp only [bxOk,Bool.and_eq_true,decide_eq_true_eq,bxm] at h
  obtain ⟨h1,h2,h3,h4,h5,h6,h7,h8⟩:=h
  refine ⟨h1,h2,h3,h4,by omega,h6,fun m hm=>?_,alr_upr h7,h8⟩
  obtain ⟨i,hi,rfl⟩:=List.getElem_of_mem hm
  have h9:=List.all_eq_true.1 h7 i (List.mem_range.2 hi)
  rw [stp_at hi (g:=L[i].1) (u:=L[i].2.1) (l:=L[i].2.2.1) (t:=L[i].2.2.2) rfl] at h9
  simp only [Bool.and_eq_true,decide_eq_true_eq,Bool.not_eq_true'] at h9
  exact ⟨h9.1,h9.2.1,h9.2.2.2⟩
 ·rintro ⟨h1,h2,h3,h4,h5,h6,h7,h8,h9⟩
  simp only [bxOk,Bool.and_eq_true,decide_eq_true_eq,bxm]
  refine ⟨h1,h2,h3,h4,by omega,h6,alr_all (fun i hi=>?_),h9⟩
  have hm:=h7 L[i] (List.getElem_mem hi)
  rw [stp_at hi (g:=L[i].1) (u:=L[i].2.1) (l:=L[i].2.2.1) (t:=L[i].2.2.2) rfl]
  simp only [Bool.and_eq_true,decide_eq_true_eq,Bool.not_eq_true']
  refine ⟨hm.1,hm.2.1,?_,hm.2.2⟩
  cases i with
  | zero=>rw [us_zero];exact mlOk_pos hm.1
  | succ i =>
   rw [us_succ (by omega)]
   exact List.pairwise_iff_getElem.1 h8 i (i+1) (by omega) hi (by omega)
theorem bx_small {g:Int} {nm:ByteArray} {t b nx:Int} {L:List M4} {G:List Int} (h:bxOk g nm t b nx L G=true):L.length≤10∧G.length≤40∧(∀ m∈L,m.2.2.1.length=3∧m.2.2.2.size≤60):=by
 obtain ⟨_,_,_,_,h5,h6,h7,_⟩:=bx_iff.1 h
 simp only [gnOk,Bool.and_eq_true,decide_eq_true_eq] at h6
 refine ⟨h5,by omega,fun m hm=>?_⟩
 have h8:=(h7 m hm).1
 simp only [mlOk,Bool.and_eq_true,decide_eq_true_eq,flOk] at h8
 exact ⟨h8.2.2.1.1,by omega⟩
theorem bit_le (n:Int) (i:Nat):0≤bit n i∧bit n i≤1:=by unfold bit;omega
theorem sl_ok {l:List R3} {n t b:Int} (h:flOk l=true):flOk (sl l n t b)=true:=by
 unfold sl
 split
 ·simp only [flOk,Bool.and_eq_true,decide_eq_true_eq,List.all_eq_true] at h ⊢
  refine ⟨by rw [List.length_mapIdx];exact h.1,fun p hp=>?_⟩
  obtain ⟨i,hi,rfl⟩:=List.mem_mapIdx.1 hp
  have ho:=h.2 l[i] (List.getElem_mem hi)
  unfold sp
  split
  ·exact ho
  ·unfold pp
   split
   ·next h1 =>
    simp only [Bool.and_eq_true] at h1
    have h2:=bit_le n i
    simp only [okp,Bool.and_eq_true,decide_eq_true_eq]
    exact ⟨h1.1,h2.2⟩
   ·exact ho
 ·exact h
theorem fgm_ok {m:M4} {n st sb:Int} (h:mlOk m.1 m.2.1 m.2.2.1 m.2.2.2=true):mlOk (fgm m n st sb).1 (fgm m n st sb).2.1 (fgm m n st sb).2.2.1 (fgm m n st sb).2.2.2=true:=by
 simp only [mlOk,Bool.and_eq_true,fgm] at h ⊢
 exact ⟨h.1,h.2.1,sl_ok h.2.2.1,h.2.2.2⟩
theorem fm_right {g:Int} {nm:ByteArray} {t b nx:Int} {L:List M4} {G:List Int} {p:Bool} {gid n st sb:Int} (h:bxOk g nm t b nx L G=true):bxOk g nm t b nx (fmL p L gid n st sb) G=true:=by
 cases p with
 | false=>rw [fmL_no];exact h
 | true =>
  obtain ⟨h1,h2,h3,h4,h5,h6,h7,h8,h9⟩:=bx_iff.1 h
  refine bx_iff.2 ⟨h1,h2,h3,h4,by rw [fmL_len];exact h5,h6,fun m hm=>?_,?_,?_⟩
  ·rw [fmL,if_pos rfl] at hm
   obtain ⟨x,hx,rfl⟩:=List.mem_map.1 hm
   have hx':=h7 x hx
   split
   ·exact ⟨fgm_ok hx'.1,hx'.2.1,hx'.2.2⟩
   ·exact hx'
  ·rw [fmL,if_pos rfl]
   unfold Upr
   rw [List.pairwise_map]
   refine h8.imp (fun {x y} hxy=>?_)
   have e:∀ z:M4,(if z.1=gid then fgm z n st sb else z).2.1=z.2.1:=fun z=>by split <;> rfl
   rw [e,e]
   exact hxy
  ·unfold uq at h9 ⊢
   rw [fmL,if_pos rfl,List.map_map]
   have e:((fun m:M4=>m.1) ∘ fun m=>if m.1=gid then fgm m n st sb else m)=fun m:M4=>m.1:=by
    funext z
    simp only [Function.comp]
    split <;> rfl
   rw [e]
   exact h9
theorem inl_pin {x y:Int} {G:List Int} (h:inl y G=false) (hx:y≠x):inl y (pin x G)=false:=by
 cases hi:inl y (pin x G) with
 | false=>rfl
 | true =>
  have hmem:∀ {l:List Int},inl y l=true→y∈l:=by
   intro l
   induction l with
   | nil=>intro h;simp [inl] at h
   | cons a l ih =>
    intro h
    simp only [inl,Bool.or_eq_true,decide_eq_true_eq] at h
    rcases h with h | h
    ·rw [h];exact List.mem_cons_self ..
    ·exact List.mem_cons_of_mem _ (ih h)
  have h1:=hmem hi
  unfold pin at h1
  rcases List.mem_append.1 h1 with h1 | h1
  ·exact absurd rfl (inl_not h y (List.mem_filter.1 h1).1)
  ·rcases List.mem_cons.1 h1 with h1 | h1
   ·exact absurd h1 hx
   ·exact absurd rfl (inl_not h y (List.mem_filter.1 h1).1)
theorem asc_of {G:List Int} {a:Int} (hp:G.Pairwise (·<·)) (hg:∀ y∈G,gok y=true) (ha:∀ y∈G,a<y):asc a G=true:=by
 induction G generalizing a with
 | nil=>rfl
 | cons x G ih =>
  obtain ⟨h1,h2⟩:=List.pairwise_cons.1 hp
  simp only [asc,Bool.and_eq_true,decide_eq_true_eq]
  exact ⟨⟨ha x (List.mem_cons_self ..),hg x (List.mem_cons_self ..)⟩,ih h2 (fun y hy=>hg y (List.mem_cons_of_mem _ hy)) h1⟩
theorem asc_gok {G:List Int} {a:Int} (h:asc a G=true):∀ y∈G,gok y=true:=by
 induction G generalizing a with
 | nil=>intro y hy;simp at hy
 | cons x G ih =>
  simp only [asc,Bool.and_eq_true,decide_eq_true_eq] at h
  intro y hy
  rcases List.mem_cons.1 hy with rfl | hy
  ·exact h.1.2
  ·exact ih h.2 y hy
theorem pin_gn {x:Int} {G:List Int} (h:gnOk G=true) (hx:gok x=true) (hn:∀ y∈G,y≠x) (hl:G.length<40):gnOk (pin x G)=true∧(pin x G).length=G.length+1:=by
 simp only [gnOk,Bool.and_eq_true,decide_eq_true_eq] at h ⊢
 have hp:=asc_pair h.1
 have hk:=asc_gok h.1
 have hlen:(pin x G).length=G.length+1:=by
  rw [pin_place hp hn]
  rw [List.length_append,List.length_cons,List.length_take,List.length_drop]
  have:=List.countP_le_length (p:=fun y=>decide (y<x)) (l:=G)
  omega
 refine ⟨⟨asc_of ?_ ?_ ?_,by rw [hlen];omega⟩,hlen⟩
 ·unfold pin
  rw [List.pairwise_append,List.pairwise_cons]
  refine ⟨hp.filter _,⟨fun y hy=>by simpa using (List.mem_filter.1 hy).2,hp.filter _⟩,fun y hy z hz=>?_⟩
  have h1:y<x:=by simpa using (List.mem_filter.1 hy).2
  rcases List.mem_cons.1 hz with rfl | hz
  ·exact h1
  ·have h2:x<z:=by simpa using (List.mem_filter.1 hz).2
   omega
 ·intro y hy
  unfold pin at hy
  rcases List.mem_append.1 hy with hy | hy
  ·exact hk y (List.mem_filter.1 hy).1
  ·rcases List.mem_cons.1 hy with rfl | hy
   ·exact hx
   ·exact hk y (List.mem_filter.1 hy).1
 ·intro y hy
  have:gok y=true:=by
   unfold pin at hy
   rcases List.mem_append.1 hy with hy | hy
   ·exact hk y (List.mem_filter.1 hy).1
   ·rcases List.mem_cons.1 hy with rfl | hy
    ·exact hx
    ·exact hk y (List.mem_filter.1 hy).1
  exact gok_pos this
theorem tk_right {g:Int} {nm:ByteArray} {t b nx:Int} {L:List M4} {G:List Int} {gid:Int} (h:bxOk g nm t b nx L G=true):bxOk g nm t b nx (tkL (tkOk g nm t b nx L G gid) L gid) (tkG (tkOk g nm t b nx L G gid) G gid)=true:=by
 cases hk:tkOk g nm t b nx L G gid with
 | false=>rw [tkL_no,tkG_no];exact h
 | true =>
  simp only [tkOk,Bool.and_eq_true,decide_eq_true_eq] at hk
  obtain ⟨h1,h2,h3,h4,h5,h6,h7,h8,h9⟩:=bx_iff.1 h
  obtain ⟨A,m,C,hL,hm,hA,hC⟩:=any_split h9 hk.2.1
  have hmem:m∈L:=by rw [hL];simp
  have hmm:=h7 m hmem
  have hgk:gok gid=true:=by
   have:=hmm.1
   simp only [mlOk,Bool.and_eq_true] at this
   rw [← hm]
   exact this.1
  have hni:∀ y∈G,y≠gid:=by rw [← hm];exact inl_not hmm.2.2
  have hsub:=tk_sub true L gid
  rw [tkG,if_pos rfl]
  refine bx_iff.2 ⟨h1,h2,h3,h4,Nat.le_trans hsub.length_le h5,(pin_gn h6 hgk hni hk.2.2).1,fun x hx=>?_,upr_sub hsub h8,?_⟩
  ·have hx':=h7 x (hsub.subset hx)
   refine ⟨hx'.1,hx'.2.1,inl_pin hx'.2.2 ?_⟩
   rw [tkL,if_pos rfl] at hx
   simpa using (List.mem_filter.1 hx).2
  ·unfold uq at h9 ⊢
   simp only [decide_eq_true_eq] at h9 ⊢
   exact h9.sublist (hsub.map _)
theorem am_right {g:Int} {nm:ByteArray} {t b nx:Int} {L:List M4} {G:List Int} {gid fl:Int} {tx:ByteArray} {st sb:Int} (h:bxOk g nm t b nx L G=true):bxOk g nm t b (amN (amOk g nm t b nx L G gid fl tx st sb) nx) (amL (amOk g nm t b nx L G gid fl tx st sb) L (nwm gid nx fl tx st sb)) G=true:=by
 cases hk:amOk g nm t b nx L G gid fl tx st sb with
 | false=>rw [amN,amL,if_neg (by decide),if_neg (by decide)];exact h
 | true =>
  rw [amN,amL,if_pos rfl,if_pos rfl]
  simp only [amOk,Bool.and_eq_true] at hk
  exact hk.2.2.2.2
theorem fidx_first {α:Type} {p:α→Bool} (S:List α) (i k:Nat) (hi:i<S.length) (h1:∀ j (hj:j<i),p (S[j]'(Nat.lt_trans hj hi))=false) (h2:p S[i]=true):fidx p S k=((k+i:Nat):Int):=by
 induction S generalizing i k with
 | nil=>simp at hi
 | cons x S ih =>
  cases i with
  | zero =>
   have h3:p x=true:=h2
   simp [fidx,h3]
  | succ i =>
   have h3:p x=false:=h1 0 (by omega)
   have h4:=ih i (k+1) (by simpa using hi) (fun j hj=>by have:=h1 (j+1) (by omega);simpa using this) (by simpa using h2)
   simp only [fidx,h3]
   rw [if_neg (by decide),h4]
   congr 1
   omega
theorem fidx_before {α:Type} {p:α→Bool} (S:List α) (i k:Nat) (h:fidx p S k=((k+i:Nat):Int)):∀ j (_:j<i) (hl:j<S.length),p S[j]=false:=by
 induction S generalizing i k with
 | nil=>intro j hj hl;simp at hl
 | cons x S ih =>
  intro j hj hl
  cases hx:p x with
  | true =>
   simp only [fidx,hx,if_true] at h
   omega
  | false =>
   simp only [fidx,hx] at h
   rw [if_neg (by decide)] at h
   cases j with
   | zero=>exact hx
   | succ j=>exact ih (i - 1) (k+1) (by rw [h];congr 1;omega) j (by omega) (by simpa using hl)
theorem sOk_iff {y tm:Int} {S:List X7} {G:List Int}:sOk y tm S G=true↔((1≤y∧y≤2)∧(0≤tm∧tm≤100000)∧S.length≤5∧gnM 20 G=true∧(gids S).Nodup∧(∀ x∈S,bxx x=true∧inl x.1 G=false∧tmOk tm x.2.2.1 x.2.2.2.2.2.1=true)∧S.Pairwise (fun a b=>a.1<b.1)∧S.Pairwise (fun a b=>a.2.1≠b.2.1)):=by
 constructor
 ·intro h
  have hpw:=sOk_pw h
  obtain ⟨_,_,h3,_⟩:=sOk_all h
  unfold sOk at h
  simp only [Bool.and_eq_true,decide_eq_true_eq] at h
  obtain ⟨ha,hb,hc,hd,_,he⟩:=h
  refine ⟨ha,hb,by omega,hd,he,fun x hx=>?_,hpw,?_⟩
  ·obtain ⟨i,hi,rfl⟩:=List.getElem_of_mem hx
   have h4:=stp7_all h3 hi
   exact ⟨h4.1,h4.2.2.2.1,h4.2.2.2.2⟩
  ·rw [List.pairwise_iff_getElem]
   intro i j hi hj hij e
   have h4:=(stp7_all h3 hj).2.2.1
   have h5:=fidx_before S j 0 (by rw [h4];simp) i hij hi
   simp [isN,e] at h5
 ·rintro ⟨ha,hb,hc,hd,he,hf,hg,hn⟩
  unfold sOk
  simp only [Bool.and_eq_true,decide_eq_true_eq]
  refine ⟨ha,hb,by omega,hd,List.all_eq_true.2 (fun i hi=>?_),he⟩
  have hi:=List.mem_range.1 hi
  obtain ⟨h1,h2,h3⟩:=hf S[i] (List.getElem_mem hi)
  have hpg:pg S i<S[i].1:=by
   cases i with
   | zero =>
    rw [pg_zero]
    simp only [bxx,bxOk,Bool.and_eq_true] at h1
    exact gok_pos h1.1
   | succ i =>
    rw [pg_succ (by omega)]
    exact (List.pairwise_iff_getElem.1 hg) i (i+1) (by omega) hi (by omega)
  have hfi:fidx (isN S[i].2.1) S 0=(i:Int):=by
   rw [fidx_first S i 0 hi (fun j hj=>?_) (by simp [isN])]
   ·simp
   ·have:=(List.pairwise_iff_getElem.1 hn) j i (by omega) hi hj
    simp [isN,this]
  unfold stp7
  rw [List.getElem?_eq_getElem hi]
  simp only [h1,hpg,hfi,h2,h3,decide_true,Bool.not_false,Bool.and_self]
theorem isG_at {S:List X7} {gid:Int} {i:Nat} (hi:i<S.length) (h:isG gid S[i]=true):S[i].1=gid:=by simpa [isG] using h
theorem split_at {S:List X7} {i:Nat} (hi:i<S.length):S=S.take i++S[i]::S.drop (i+1):=by
 rw [← List.drop_eq_getElem_cons hi,List.take_append_drop]
theorem dropB_right {y tm:Int} {S:List X7} {G:List Int} {gid:Int}:(sOk y tm S G&&(dbO S gid&&decide (G.length<20)))=(sOk y tm S G&&(dbO S gid&&sOk y tm (dbS S gid) (pin gid G))):=by
 cases hs:sOk y tm S G with
 | false=>rfl
 | true =>
  rcases fidx_cases (isG gid) S 0 with hneg | ⟨i,hi,hiz,hpi⟩
  ·rw [(db_no hneg).1];rfl
  ·rw [Nat.zero_add] at hiz
   rw [(db_at hiz).1,(db_at hiz).2]
   simp only [Bool.true_and]
   obtain ⟨ha,hb,hc,hd,he,hf,hg,hn⟩:=sOk_iff.1 hs
   have hk:=isG_at hi hpi
   have h0:=hf S[i] (List.getElem_mem hi)
   rw [hk] at h0
   have hgk:gok gid=true:=by
    have:=h0.1
    simp only [bxx,bxOk,Bool.and_eq_true,hk] at this
    exact this.1
   have hgp:=gnM_parts hd
   have hne:∀ z∈G,z≠gid:=by
    intro z hz e
    subst e
    have h5:=h0.2.1
    have h6:inl z G=true:=by
     clear hd hgp h0 h5 hs hf
     induction G with
     | nil=>cases hz
     | cons a G ih =>
      rcases List.mem_cons.1 hz with rfl | hz
      ·simp [inl]
      ·simp [inl,ih hz]
    rw [h6] at h5
    cases h5
   have hpn:=pin_gn (x:=gid) (G:=G) (by rw [gnOk,hgp.1];simp;omega) hgk hne (by omega)
   have hasc:asc 0 (pin gid G)=true:=by
    have:=hpn.1
    rw [gnOk,Bool.and_eq_true] at this
    exact this.1
   have hgn:gnM 20 (pin gid G)=decide (G.length<20):=by
    rw [gnM,hasc,hpn.2]
    simp only [Bool.true_and]
    congr 1
    apply propext
    omega
   have hsub:(S.take i++S.drop (i+1)).Sublist S:=List.Sublist.trans ((List.Sublist.refl (S.take i)).append (List.drop_sublist_drop_left S (Nat.le_succ i))) (by rw [List.take_append_drop];exact List.Sublist.refl _)
   cases hl:decide (G.length<20) with
   | false =>
    symm
    cases hr:sOk y tm (S.take i++S.drop (i+1)) (pin gid G) with
    | false=>rfl
    | true =>
     have:=(sOk_iff.1 hr).2.2.2.1
     rw [hgn,hl] at this
     cases this
   | true =>
    symm
    have hsp:=split_at hi
    rw [hsp] at hg
    have hga:=List.pairwise_append.1 hg
    have hgb:=List.pairwise_cons.1 hga.2.1
    refine sOk_iff.2 ⟨ha,hb,Nat.le_trans hsub.length_le hc,by rw [hgn,hl],?_,fun x hx=>?_,List.Pairwise.sublist hsub (by rw [hsp];exact hg),List.Pairwise.sublist hsub hn⟩
    ·refine List.Nodup.sublist ?_ he
     have e:gids S=gids (S.take i++S[i]::S.drop (i+1)):=by rw [← hsp]
     rw [e]
     unfold gids
     rw [List.flatMap_append,List.flatMap_append,List.flatMap_cons]
     exact (List.Sublist.refl _).append (List.sublist_append_right _ _)
    ·have h5:=hf x (hsub.subset hx)
     refine ⟨h5.1,inl_pin h5.2.1 (fun e=>?_),h5.2.2⟩
     rcases List.mem_append.1 hx with hx | hx
     ·have:=hga.2.2 x hx S[i] (List.mem_cons_self ..)
      omega
     ·have:=hgb.1 x hx
      omega
theorem dropM_right {y tm:Int} {S:List X7} {G:List Int} {box gid:Int}:(sOk y tm S G&&(chB S box (dmK gid) (dmF gid)).1)=(sOk y tm S G&&((chB S box (dmK gid) (dmF gid)).1&&sOk y tm (chB S box (dmK gid) (dmF gid)).2 G)):=by
 cases hs:sOk y tm S G with
 | false=>rfl
 | true =>
  rcases fidx_cases (isG box) S 0 with hneg | ⟨i,hi,hiz,hpi⟩
  ·rw [chB_no hneg];rfl
  ·rw [Nat.zero_add] at hiz
   rw [chB_at (ok:=dmK gid) (f:=dmF gid) hiz hi rfl]
   simp only [Bool.true_and]
   cases hk:dmK gid S[i] with
   | false=>rfl
   | true =>
    simp only [Bool.true_and]
    symm
    obtain ⟨ha,hb,hc,hd,he,hf,hg,hn⟩:=sOk_iff.1 hs
    have h0:=hf S[i] (List.getElem_mem hi)
    have hsp:=split_at hi
    have hset:S.set i (dmF gid S[i])=S.take i++dmF gid S[i]::S.drop (i+1):=by rw [List.set_eq_take_append_cons_drop,if_pos hi]
    have hm1:(S.set i (dmF gid S[i])).map (fun x=>x.1)=S.map (fun x=>x.1):=by
     rw [List.map_set]
     have:(dmF gid S[i]).1=(S.map (fun x=>x.1))[i]'(by simpa using hi):=by simp [dmF]
     rw [this,List.set_getElem_self]
    have hm2:(S.set i (dmF gid S[i])).map (fun x=>x.2.1)=S.map (fun x=>x.2.1):=by
     rw [List.map_set]
     have:(dmF gid S[i]).2.1=(S.map (fun x=>x.2.1))[i]'(by simpa using hi):=by simp [dmF]
     rw [this,List.set_getElem_self]
    refine sOk_iff.2 ⟨ha,hb,by rw [List.length_set];exact hc,hd,?_,fun x hx=>?_,?_,?_⟩
    ·refine List.Nodup.sublist ?_ he
     have e:gids S=gids (S.take i++S[i]::S.drop (i+1)):=by rw [← hsp]
     rw [e,hset]
     unfold gids
     rw [List.flatMap_append,List.flatMap_append,List.flatMap_cons,List.flatMap_cons]
     refine (List.Sublist.refl _).append (List.Sublist.append ?_ (List.Sublist.refl _))
     exact List.Sublist.map _ (tk_sub _ _ _)
    ·rcases mem_set hx with hx | rfl
     ·exact hf x hx
     ·refine ⟨?_,h0.2.1,?_⟩
      ·exact tk_right h0.1
      ·have h5:=h0.2.2
       simp only [tmOk,Bool.and_eq_true] at h5 ⊢
       refine ⟨h5.1,List.all_eq_true.2 (fun m hm=>List.all_eq_true.1 h5.2 m ((tk_sub _ _ _).subset hm))⟩
    ·rw [← List.pairwise_map (f:=fun x:X7=>x.1) (R:=fun a b=>a<b),hm1,List.pairwise_map];exact hg
    ·rw [← List.pairwise_map (f:=fun x:X7=>x.2.1) (R:=fun a b=>a≠b),hm2,List.pairwise_map];exact hn
end Go.Proofs.YtkbecgcbheopnaaGreat
namespace Go.Proofs.YtkbecgcbheopnaaGreat
open Go.RowKit
theorem smail_self (g u:Int) (l:List R3) (t:ByteArray):smail g u l t g u l t=true:=by simp [smail]
end Go.Proofs.YtkbecgcbheopnaaGreat
