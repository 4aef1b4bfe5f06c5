/- Md. -/

import Derived.Test.YtkbecgcbheopnaaGreatdMc
namespace Go.Proofs.YtkbecgcbheopnaaGreat
open Go.RowKit
def jp (p q:R3):R3:=if cb q.1 q.2.1 q.2.2 p.1 p.2.1 p.2.2=true then q else p
def jl (a b:List R3):List R3:=List.zipWith jp a b
theorem run_copy_rows {P:Program} (w:World) (dT sT ty elem:TypeId) (g n dCap:Nat) (a:Addr) (sCap size:Nat) (cur:Array Value) (t:TypeId) (cs:List Value)
  (hu:P.underlying dT=some (.slice elem)) (hs:(P.info? elem).map (·.size)=some size)
  (hg:w.heap[g]?=some (.cells cur t (0,0))) (hn:cs.length=n*size)
  (hsrc:∀ j v,cs[j]?=some v→w.cell? (a.add j)=some v) (hfit:cs.length≤cur.size) (h1:∀ v∈cs,v.oneCell'=true) :
  (Builtin.copy_ #[dT,sT] ty #[.slice (some ⟨g,0,none⟩) n dCap,.slice (some a) n sCap]).run P w =
   .ok (goInt n) (w.setRow g (cs++cur.toList.drop cs.length).toArray):=by
 have hl:=run_loadCells_list (P:=P) w a cs hsrc
 have hst:=run_storeCells_at P g 0 t cs 0 cur w hg (by simpa using hfit) h1
 rw [hn] at hl
 cases hq:P.info? elem with
 | none=>simp [hq] at hs
 | some i =>
  have hi:i.size=size:=by simpa [hq] using hs
  simp [Builtin.copy_,run_underlying hu,Builtin.lenOf,Builtin.firstCells,sizeOf,typeInfo,hq,hi,hl,hst]
theorem run_copy_zero {P:Program} (w:World) (dT sT ty elem:TypeId) (d a:Option Addr) (dCap sCap size:Nat) (hu:P.underlying dT=some (.slice elem)) (hs:(P.info? elem).map (·.size)=some size) :
  (Builtin.copy_ #[dT,sT] ty #[.slice d 0 dCap,.slice a 0 sCap]).run P w=.ok (goInt 0) w:=by
 cases hq:P.info? elem with
 | none=>simp [hq] at hs
 | some i =>
  have hl:∀ (x:Addr),(loadCells x 0).run P w=.ok #[] w:=fun x=>by simpa using run_loadCells_list (P:=P) w x [] (by simp)
  cases d <;> cases a <;> simp [Builtin.copy_,run_underlying hu,Builtin.lenOf,Builtin.firstCells,sizeOf,typeInfo,hq,storeCells,hl]
theorem size_rg:(Tryz.prog.info? 123).map (·.size)=some 3:=by kernel_rfl
theorem addr_add (k o j:Nat):(⟨k,o,none⟩:Addr).add j=⟨k,o+j,none⟩:=by unfold Addr.add;split <;> simp_all
theorem Row.all {W:World} {k o:Nat} {l:List R3} (h:Row W k o l):∀ j u,(fl l)[j]?=some u→W.cell? ((⟨k,o,none⟩:Addr).add j)=some u:=by
 intro j u hu
 rw [addr_add]
 have hj:j<(fl l).length:=(List.getElem?_eq_some_iff.1 hu).1
 rw [fl_len] at hj
 have hi:j / 3<l.length:=by omega
 have e:=fl_at l (j / 3) hi
 have c:=h (j / 3) hi
 have h3:j % 3=0∨j % 3=1∨j % 3=2:=by omega
 rcases h3 with h3 | h3 | h3
 ·have ej:j=j / 3*3:=by omega
  rw [← ej] at e c
  rw [← hu,e.1];exact c.1
 ·have ej:j=j / 3*3+1:=by omega
  rw [Nat.add_assoc,← ej] at c
  rw [← ej] at e
  rw [← hu,e.2.1];exact c.2.1
 ·have ej:j=j / 3*3+2:=by omega
  rw [Nat.add_assoc o _ 2,← ej] at c
  rw [← ej] at e
  rw [← hu,e.2.2];exact c.2.2
theorem wpList_copy_rg {w:World} {ops:Array Oper} {rest:List Oper} {o:Oper} {a:Act} {Q:Exit→Act→World→Prop} (hgd:o.guard=none) (d s:Operand)
  (ho:o.op=.call { callee:=.builtin .copy,args:=#[d,s],argTypes:=#[84,84] }) (g n ca:Nat) (ao:Option Addr) (B:Nat) (l0 l:List R3)
  (hd:a.eval d=.slice (some ⟨g,0,none⟩) n n) (hs:a.eval s=.slice ao n ca) (hn:n=l.length) (hown:Ow w B (.slice (some ⟨g,0,none⟩) n n) l0) (hr:Rs w ao l)
  (h:∀ w',Ow w' B (.slice (some ⟨g,0,none⟩) n n) l→w.grownBy w' (some g)→wpList Tryz.prog ops Q rest (a.put o.dst (goInt n)) w') :
  wpList Tryz.prog ops Q (o::rest) a w:=by
 refine wpList_plain hgd fun K hK=>?_
 have hl0:l0.length=n:=((Ow.rs hown).1).symm
 by_cases h0:n=0
 ·have hrun:=run_copy_zero (P:=Tryz.prog) w 84 84 o.type 123 (some ⟨g,0,none⟩) ao 0 ca 3 Tryz.underlying84 size_rg
  subst h0
  have e0:l0=l:=by rw [List.eq_nil_of_length_eq_zero hl0,List.eq_nil_of_length_eq_zero hn.symm]
  unfold Oper.wp
  simp [execOp,ho,resolve,invoke,builtin,hd,hs,hrun,Result.andThen]
  exact hK _ _ (h w (hown.cast e0) (wre _ _))
 ·obtain ⟨k,o',rfl,hk,hrow⟩:=hr (by omega)
  rcases hown.2 with ⟨h1,_⟩ | ⟨g',cap,cur,h1,h2,h3,h4,h5,h6,h7⟩
  ·simp at h1
  ·simp only [Value.slice.injEq,Option.some.injEq,Addr.mk.injEq,and_true] at h1
   obtain ⟨rfl,_,rfl⟩:=h1
   have hcur:cur.size=n*3:=h6
   have hrun:=run_copy_rows (P:=Tryz.prog) w 84 84 o.type 123 g n n ⟨k,o',none⟩ ca 3 cur 123 (fl l) Tryz.underlying84 size_rg h3 (by rw [fl_len,hn]) hrow.all (by rw [fl_len,hcur,hn];omega) (fl_one l)
   have hd0:cur.toList.drop (fl l).length=[]:=List.drop_eq_nil_of_le (by rw [Array.length_toList,hcur,fl_len,hn];omega)
   rw [hd0,List.append_nil] at hrun
   unfold Oper.wp
   simp [execOp,ho,resolve,invoke,builtin,hd,hs,hrun,Result.andThen]
   refine hK _ _ (h _ ⟨fl_len l,.inr ⟨g,n,(fl l).toArray,by rw [hn],h2,setRow_heap w g cur _ _ _ h3,by omega,h5,by simp [fl_len,hn],?_⟩⟩ ⟨rfl,rfl,rfl,by simp [World.setRow],fun k _ hk=>setRow_other w g k _ (fun e=>hk (by simp [e]))⟩)
   exact List.take_of_length_le (by simp [fl_len])
set_option maxHeartbeats 400000 in
theorem l04Copy_any (ao:Option Addr) (n cap:Nat) (l:List R3) (w:World) (hl:l.length=n) (hn:n≤1048576) (hr:Rs w ao l) (h0:ao=none→cap=0) :
  Calls Tryz.prog 145 #[.slice ao n cap] w fun e w'=>∃ v,e=.returned v∧Ow w' w.heap.size v l∧Below w.heap.size w w':=by
 have HR:=hid hr
 have HL:=hid hl
 have HN:=hid hn
 clear hr hl hn
 cases ao with
 | none =>
  have hn0:n=0:=by
   by_cases h:0<n
   ·obtain ⟨_,_,h1,_⟩:=HR.out (by rw [HL.out];exact h)
    cases h1
   ·omega
  subst hn0
  obtain rfl:=h0 rfl
  have hle:l=[]:=List.eq_nil_of_length_eq_zero HL.out
  subst hle
  clear h0
  go_enter Tryz.func145,Tryz.ntmps145
  go_wp2
  go_ret
  exact ⟨_,rfl,own_empty w _ (Nat.le_refl _),bpush (bre _) _⟩
 | some ad =>
  clear h0
  obtain ⟨i0,hi,hz0,hz1,hz2⟩:=info_parts3 info_rg
  have HSRC:Hid (∀ j u,(fl l)[j]?=some u→(w.alloc (.cells #[] 123)).cell? (ad.add j)=some u):=by
   intro j u hu
   have hj:j<(fl l).length:=(List.getElem?_eq_some_iff.1 hu).1
   rw [fl_len] at hj
   obtain ⟨k,o,h1,h2,h3⟩:=(HR.out.later (bpush (bre _) _)) (by omega)
   simp only [Option.some.injEq] at h1
   subst h1
   exact h3.all j u hu
  go_enter Tryz.func145,Tryz.ntmps145
  go_wp2_with (at_builtin;refine wpList_append_own _ rfl (.tmp 3) (.tmp 4) 84 rfl w.heap.size 123 i0 _ 3 24 Tryz.underlying84 hi hz0 hz1 hz2 rfl (by decide) _ 0 [] (by rfl) (own_empty w _ (Nat.le_refl _)) ad n cap (fl l) (by rfl) (by rw [fl_len,HL.out]) HSRC.out (fl_one l) (by have:=HN.out;unfold maxLen;omega) (by have:=HN.out;omega) (by simp) ?_;intro v1 w1 hown1 hg1 _)
  go_ret
  exact ⟨_,rfl,by simpa [Ow,HL.out] using hown1,(bpush (bre _) _).grown hg1 (by simp) (by intro k hk;simp [Value.ownBlock] at hk;omega)⟩
end Go.Proofs.YtkbecgcbheopnaaGreat
namespace Go.Proofs.YtkbecgcbheopnaaGreat
open Go.RowKit
def pp (p:R3) (m t b:Int):R3:=if (rgOk m t b&&later t b p.2.1 p.2.2)=true then (m,t,b) else p
def sp (n t b:Int) (i:Nat) (p:R3):R3:=if bit n i=p.1 then p else pp p (bit n i) t b
def sl (l:List R3) (n t b:Int):List R3:=if (flOk l&&decide (0≤n∧n≤7))=true then l.mapIdx (sp n t b) else l
theorem sl_len (l:List R3) (n t b:Int):(sl l n t b).length=l.length:=by unfold sl;split <;> simp
theorem put_l (v t b n t' b':Int):∃ v1 t1 b1:Int,Hid (pp (v,t,b) n t' b'=(v1,t1,b1))∧Hid (∀ w,Calls Tryz.prog 150 #[.agg #[.int .i64 v,.int .i64 t,.int .i64 b],.int .i64 n,.agg #[.int .i64 t',.int .i64 b']] w fun e w'=>e=.returned (.agg #[.int .i64 v1,.int .i64 t1,.int .i64 b1])∧Below w.heap.size w w')∧Hid (∀ w,Calls Tryz.prog 148 #[.agg #[.int .i64 v,.int .i64 t,.int .i64 b],.int .i64 n,.agg #[.int .i64 t',.int .i64 b']] w fun e w'=>e=.returned (.agg #[.int .i64 v1,.int .i64 t1,.int .i64 b1])∧Below w.heap.size w w'):=by
 have e:preg v t b n t' b'=rgv (pp (v,t,b) n t' b').1 (pp (v,t,b) n t' b').2.1 (pp (v,t,b) n t' b').2.2:=by
  unfold preg pp;split <;> rfl
 obtain ⟨r,hr⟩:∃ r,pp (v,t,b) n t' b'=r:=⟨_,rfl⟩
 rw [hr] at e ⊢
 obtain ⟨v1,t1,b1⟩:=r
 exact ⟨v1,t1,b1,rfl,fun w=>(specPut_any v t b n t' b' w).mono fun _ _ k=>⟨by rw [k.1,e],k.2⟩,fun w=>(implPut_any v t b n t' b' w).mono fun _ _ k=>⟨by rw [k.1,e],k.2⟩⟩
def sfil (l:List R3) (n t b:Int) (i:Nat):List R3:=l.mapIdx fun j p=>if j<i then sp n t b j p else p
theorem sfil_len (l:List R3) (n t b:Int) (i:Nat):(sfil l n t b i).length=l.length:=by simp [sfil]
theorem sfil_zero (l:List R3) (n t b:Int):sfil l n t b 0=l:=by
 unfold sfil;apply List.ext_getElem
 ·simp
 ·intro j h1 h2;simp
theorem sfil_at (l:List R3) (n t b:Int) (i:Nat) (h:i<l.length) (h':i<(sfil l n t b i).length):(sfil l n t b i)[i]=l[i]:=by simp [sfil]
theorem sfil_set (l:List R3) (n t b:Int) (i:Nat) (h:i<l.length):(sfil l n t b i).set i (sp n t b i l[i])=sfil l n t b (i+1):=by
 unfold sfil;apply List.ext_getElem
 ·simp
 ·intro j h1 h2
  simp only [List.getElem_set,List.getElem_mapIdx]
  by_cases hj:i=j
  ·subst hj;simp
  ·rw [if_neg hj]
   by_cases hji:j<i
   ·rw [if_pos hji,if_pos (by omega)]
   ·rw [if_neg hji,if_neg (by omega)]
theorem sfil_same (l:List R3) (n t b:Int) (i:Nat) (h:i<l.length) (hb:bit n i=l[i].1):sfil l n t b i=sfil l n t b (i+1):=by
 rw [← sfil_set l n t b i h]
 have e:sp n t b i l[i]=(sfil l n t b i)[i]'(by rw [sfil_len];exact h):=by
  rw [sfil_at l n t b i h];unfold sp;rw [if_pos hb]
 rw [e,List.set_getElem_self]
theorem sfil_all (l:List R3) (n t b:Int) (hok:flOk l=true) (hn:0≤n∧n≤7) (hl:l.length=3):sfil l n t b 3=sl l n t b:=by
 unfold sl sfil
 rw [if_pos (by simp [hok,hn])]
 apply List.ext_getElem
 ·simp
 ·intro j h1 h2
  have:j<3:=by simpa [hl] using h2
  simp [this]
theorem sl_not (l:List R3) (n t b:Int) (h:¬ (flOk l=true∧0≤n∧n≤7)):sl l n t b=l:=by
 unfold sl;rw [if_neg];intro hc;apply h;simpa [Bool.and_eq_true,decide_eq_true_eq] using hc
theorem flOk_len {l:List R3} (h:flOk l=true):l.length=3:=by
 unfold flOk at h;simp at h;exact h.1
theorem Ow.here {W:World} {B g n c:Nat} {l:List R3} (h:Ow W B (.slice (some ⟨g,0,none⟩) n c) l) (i:Nat) (hi:i<l.length) (p:R3) (hp:l[i]=p) :
  (W.cell? ⟨g,i*3,none⟩=some (.int .i64 p.1)∧W.cell? ⟨g,i*3+1,none⟩=some (.int .i64 p.2.1)∧W.cell? ⟨g,i*3+2,none⟩=some (.int .i64 p.2.2))∧W.frozen? ⟨g,i*3,none⟩=false∧W.frozen? ⟨g,i*3+1,none⟩=false∧W.frozen? ⟨g,i*3+2,none⟩=false:=by
 subst hp
 obtain ⟨rfl,hr⟩:=Ow.rs h
 obtain ⟨k,o,e,_,c1,c2,c3⟩:=hr.at hi
 simp only [Option.some.injEq,Addr.mk.injEq,and_true] at e
 obtain ⟨rfl,rfl⟩:=e
 simp only [Nat.zero_add] at c1 c2 c3
 exact ⟨⟨c1,c2,c3⟩,World.ownsRow.frozenAt h _,World.ownsRow.frozenAt h _,World.ownsRow.frozenAt h _⟩
set_option maxHeartbeats 800000 in
set_option maxRecDepth 100000 in
theorem implSetFlags_any (ao:Option Addr) (n cap:Nat) (l:List R3) (m t b:Int) (w:World) (hl:l.length=n) (hn:n≤1048576) (hr:Rs w ao l) :
  Calls Tryz.prog 122 #[.slice ao n cap,.int .i64 m,.agg #[.int .i64 t,.int .i64 b]] w fun e w'=>∃ g,w.heap.size≤g∧e=.returned (.slice (some ⟨g,0,none⟩) n n)∧Ow w' w.heap.size (.slice (some ⟨g,0,none⟩) n n) (sl l m t b)∧Below w.heap.size w w':=by
 obtain ⟨M,hM,hmk⟩:=make_rg n hn
 obtain ⟨W0,hW0⟩:∃ W0,w.alloc (.cells #[.int .i64 t,.int .i64 b] 34)=W0:=⟨_,rfl⟩
 have A0:Hid (Sg W0 w.heap.size 34 t b):=by subst hW0;exact Sg.new w _ t b
 have B0:Hid (Below w.heap.size w W0):=by subst hW0;exact bpush (bre _) _
 have S0:Hid (W0.heap.size=w.heap.size+1):=by subst hW0;show _=_;simp
 have HR:=hid hr
 have HL:=hid hl
 clear hr hl
 go_enter Tryz.func122,Tryz.ntmps122
 go_wp2_with ((refine wpList_copy_rg rfl (.tmp 15) (.tmp 16) rfl W0.heap.size n cap ao W0.heap.size (List.replicate n (0,0,0)) l (by rfl) (by rfl) HL.out.symm (hM.out W0) (HR.out.later (btr B0.out (bpush (bre _) _))) ?_;intro w1 hown1 hg1))
 have HO1:=hid hown1
 have HG1:Hid (Below W0.heap.size W0 w1):=(bpush (bre _) _).trans (below_of_grown hg1 (Nat.le_refl _) (by simp))
 have HR1:=hid (HR.out.later (btr B0.out HG1.out))
 clear hown1 hg1 hmk hW0
 refine (implFlagsOk_any ao n cap l _ HL.out hn HR1.out).mono ?_;rintro e w2 ⟨rfl,hb2⟩
 have HO2:=hid (own_later HO1.out hb2)
 have HG2:Hid (Below W0.heap.size W0 w2):=btr HG1.out hb2
 clear hb2
 cases hok:flOk l
 ·have HSL:=hid (sl_not l m t b (by simp [hok]))
  clear hok
  go_wp2
  go_ret
  exact ⟨W0.heap.size,B0.out.size,rfl,own_base (B':=W0.heap.size) (Ow.cast HO2.out HSL.out.symm) B0.out.size,btr B0.out HG2.out⟩
 ·have HOK:=hid hok
  clear hok
  go_wp2_with fail
  refine (right_flags m _).mono ?_;rintro e w3 ⟨rfl,rfl⟩
  by_cases hm:0≤m∧m≤7
  ·have HM:=hid hm
   have hd:decide (0≤m∧m≤7)=true:=by simpa using hm
   rw [hd]
   clear hm hd
   have HN3:Hid (n=3):=by show _=_;rw [← HL.out];exact flOk_len HOK.out
   go_wp2
   go_loopw [30] (fun iv wr=>∃ i:Nat,i≤n∧iv=.int .i64 (i:Int)∧Ow wr W0.heap.size (.slice (some ⟨W0.heap.size,0,none⟩) n n) (sfil l m t b i)∧Below W0.heap.size W0 wr) (fun iv _=>n - (intOf iv).toNat)
   case atStart=>exact ⟨0,Nat.zero_le _,rfl,by rw [sfil_zero];exact HO2.out,HG2.out⟩
   case round =>
    obtain ⟨i,hi,rfl,hown,hb⟩:=hrel
    have HO:=hid hown
    have HB:=hid hb
    clear hown hb
    by_cases hlt:i<n
    ·have hi3:i<3:=by have:=HN3.out;omega
     have hil:i<l.length:=by rw [HL.out];exact hlt
     have hil':i<(sfil l m t b i).length:=by rw [sfil_len];exact hil
     obtain ⟨p,hp⟩:∃ p,l[i]=p:=⟨_,rfl⟩
     have hc:=Ow.here HO.out i hil' p ((sfil_at l m t b i hil hil').trans hp)
     have HP:=hid hp
     have HIL:=hid hil'
     obtain ⟨v,t0,b0⟩:=p
     clear hp hil'
     go_wp2_with fail
     refine (valAt_any m i _ hi3).mono ?_;rintro e w4 ⟨rfl,rfl⟩
     obtain ⟨x,hx⟩:∃ x,bit m i=x:=⟨_,rfl⟩
     rw [hx]
     have HX:=hid hx
     by_cases hxv:x=v
     ·have HSS:=hid (sfil_same l m t b i hil (by rw [HP.out,hx];exact hxv))
      subst hxv
      have hxx:(x != x)=false:=by simp
      clear hx
      go_wp2
      go_roundw
      case rel=>exact ⟨i+1,by omega,by go_num,own_later (HO.out.cast HSS.out) (bpush (bre _) _),bpush HB.out _⟩
      case measure=>simp [intOf];omega
     ·have HSP:Hid (sp m t b i l[i]=pp (v,t0,b0) x t b):=by show _=_;rw [HP.out];unfold sp;rw [hx,if_neg hxv]
      have hxx:(x != v)=true:=by simpa using hxv
      obtain ⟨v1,t1,b1,hj,cs,ci⟩:=put_l v t0 b0 x t b
      obtain ⟨W4,hW4⟩:∃ W4,wr.alloc (.cells #[.int .i64 v,.int .i64 t0,.int .i64 b0] 123)=W4:=⟨_,rfl⟩
      have R4:Hid (Rg W4 wr.heap.size 123 v t0 b0):=by subst hW4;exact Rg.new wr _ v t0 b0
      have B4:Hid (Below wr.heap.size wr W4):=by subst hW4;exact bpush (bre _) _
      have c4:=R4.out.cells
      have s4:=(A0.out.later (btr HB.out B4.out)).cells
      clear hx hxv hc
      rw [hW4]
      clear hW4
      go_wp2_with fail
      refine (ci.out _).mono ?_;rintro e w5 ⟨rfl,hb5⟩
      have HO5:=hid (own_later HO.out (btr B4.out hb5))
      have hc5:=Ow.spot HO5.out i HIL.out
      obtain ⟨x1,x2,x3,hc5,hf5⟩:=hc5
      have HST:=hid (Ow.stored HO5.out i HIL.out (v1,t1,b1))
      have HB5:Hid (Below W0.heap.size W0 w5):=btr HB.out (btr B4.out hb5)
      clear hb5 c4 s4
      go_wp2
      go_roundw
      case rel=>exact ⟨i+1,by omega,by go_num,HST.out.cast (by rw [← hj.out,← HSP.out];exact sfil_set l m t b i hil),bset (bset (bset HB5.out (Nat.le_refl _) _) (Nat.le_refl _) _) (Nat.le_refl _) _⟩
      case measure=>simp [intOf];omega
    ·have HE:Hid (sfil l m t b i=sl l m t b):=by
      have:=HN3.out
      have hi3:i=3:=by omega
      subst hi3
      exact sfil_all l m t b HOK.out HM.out (by rw [HL.out];exact HN3.out)
     go_wp2
     go_ret
     exact ⟨W0.heap.size,B0.out.size,rfl,own_base (B':=W0.heap.size) (HO.out.cast HE.out) B0.out.size,btr B0.out HB.out⟩
  ·have HSL:=hid (sl_not l m t b (by intro h;exact hm h.2))
   have hd:decide (0≤m∧m≤7)=false:=by simpa using hm
   rw [hd]
   clear hm hd
   go_wp2
   go_ret
   exact ⟨W0.heap.size,B0.out.size,rfl,own_base (B':=W0.heap.size) (Ow.cast HO2.out HSL.out.symm) B0.out.size,btr B0.out HG2.out⟩
theorem Ow.solid {W:World} {B:Nat} {v:Value} {l:List R3} (h:Ow W B v l) (hl:0<l.length):∃ g c,v=.slice (some ⟨g,0,none⟩) l.length c∧B≤g:=by
 rcases h.2 with ⟨h1,h2⟩ | ⟨g,cap,cur,h1,h2,_⟩
 ·omega
 ·exact ⟨g,cap,h1,h2⟩
theorem bit_tmod {m:Int} {i:Nat} {q:Int} (hq:m / 2 ^ i=q) (h0:0≤q):q.tmod 2=bit m i:=by
 unfold bit;rw [hq,Int.tmod_eq_emod_of_nonneg h0]
set_option maxHeartbeats 1600000 in
set_option maxRecDepth 100000 in
theorem specSetFlags_any (ao:Option Addr) (n cap:Nat) (l:List R3) (m t b:Int) (w:World) (hl:l.length=n) (hn:n≤1048576) (hr:Rs w ao l) (h0:ao=none→cap=0) :
  Calls Tryz.prog 124 #[.slice ao n cap,.int .i64 m,.agg #[.int .i64 t,.int .i64 b]] w fun e w'=>∃ v,e=.returned v∧Ow w' w.heap.size v (sl l m t b)∧Below w.heap.size w w':=by
 obtain ⟨W0,hW0⟩:∃ W0,w.alloc (.cells #[.int .i64 t,.int .i64 b] 34)=W0:=⟨_,rfl⟩
 have A0:Hid (Sg W0 w.heap.size 34 t b):=by subst hW0;exact Sg.new w _ t b
 have B0:Hid (Below w.heap.size w W0):=by subst hW0;exact bpush (bre _) _
 have HR:=hid hr
 have HL:=hid hl
 have H0:=hid h0
 clear hr hl h0
 go_enter Tryz.func124,Tryz.ntmps124
 go_wp2_with fail
 clear hW0
 refine (l04Copy_any ao n cap l _ HL.out hn (HR.out.later B0.out) H0.out).mono ?_;rintro e w1 ⟨v0,rfl,hown1,hb1⟩
 have HO1:=hid hown1
 have HG1:=hid hb1
 clear hown1 hb1
 go_wp2_with fail
 refine (specFlagsOk_any ao n cap l _ HL.out hn (HR.out.later (btr B0.out HG1.out))).mono ?_;rintro e w2 ⟨rfl,hb2⟩
 have HO2:=hid (own_later HO1.out hb2)
 have HG2:Hid (Below W0.heap.size W0 w2):=btr HG1.out hb2
 clear hb2
 cases hok:flOk l
 ·have HSL:=hid (sl_not l m t b (by simp [hok]))
  clear hok
  go_wp2
  go_ret
  exact ⟨_,rfl,own_base (B':=W0.heap.size) (by rw [HSL.out];exact HO2.out) B0.out.size,btr B0.out HG2.out⟩
 ·have HOK:=hid hok
  clear hok
  go_wp2_with fail
  refine (in_any m 0 7 _).mono ?_;rintro e w3 ⟨rfl,rfl⟩
  by_cases hm:0≤m∧m≤7
  ·have HM:=hid hm
   have hd:decide (0≤m∧m≤7)=true:=by simpa using hm
   rw [hd]
   have HN3:Hid (n=3):=by show _=_;rw [← HL.out];exact flOk_len HOK.out
   have hm0:0≤m:=hm.1
   have hm7:m≤7:=hm.2
   clear hm hd
   obtain ⟨g,c,hv0,hg⟩:=Ow.solid HO2.out (by rw [HL.out,HN3.out];decide)
   rw [HL.out] at hv0
   subst hv0
   have HGG:=hid hg
   clear hg
   go_wp2_with fail
   go_loopw [8] (fun iv wr=>∃ i:Nat,i≤n∧iv=.int .i64 (i:Int)∧Ow wr W0.heap.size (.slice (some ⟨g,0,none⟩) n c) (sfil l m t b i)∧Below W0.heap.size W0 wr) (fun iv _=>n - (intOf iv).toNat)
   case atStart=>exact ⟨0,Nat.zero_le _,rfl,by rw [sfil_zero];exact HO2.out,HG2.out⟩
   case round =>
    obtain ⟨i,hi,rfl,hown,hb⟩:=hrel
    have HO:=hid hown
    have HB:=hid hb
    clear hown hb
    by_cases hlt:i<n
    ·have hi3:i<3:=by have:=HN3.out;omega
     have hil:i<l.length:=by rw [HL.out];exact hlt
     have hil':i<(sfil l m t b i).length:=by rw [sfil_len];exact hil
     obtain ⟨p,hp⟩:∃ p,l[i]=p:=⟨_,rfl⟩
     have hc:=Ow.here HO.out i hil' p ((sfil_at l m t b i hil hil').trans hp)
     have HP:=hid hp
     have HIL:=hid hil'
     obtain ⟨v,t0,b0⟩:=p
     clear hp hil'
     obtain ⟨x,hx⟩:∃ x,bit m i=x:=⟨_,rfl⟩
     have HX:=hid hx
     have hbt:(m / 2 ^ i).tmod 2=x:=(bit_tmod rfl (Int.ediv_nonneg hm0 (by exact_mod_cast Nat.zero_le (2 ^ i)))).trans hx
     by_cases hxv:x=v
     ·have HSS:=hid (sfil_same l m t b i hil (by rw [HP.out,hx];exact hxv))
      subst hxv
      have hxx:(x != x)=false:=by simp
      clear hx
      go_wp2
      go_roundw
      case rel=>exact ⟨i+1,by omega,by go_num,HO.out.cast HSS.out,HB.out⟩
      case measure=>simp [intOf];omega
     ·have HSP:Hid (sp m t b i l[i]=pp (v,t0,b0) x t b):=by show _=_;rw [HP.out];unfold sp;rw [hx,if_neg hxv]
      have hxx:(v != x)=true:=by simpa using fun h=>hxv h.symm
      obtain ⟨v1,t1,b1,hj,cs,ci⟩:=put_l v t0 b0 x t b
      have s4:=(A0.out.later HB.out).cells
      have hI:(0:Int)≤(i:Int)∧(i:Int)<(n:Int):=by omega
      clear hx hxv
      go_wp2_with fail
      go_region_with (first | (go_at_call 150;refine (cs.out _).mono ?_;rintro e w5 ⟨rfl,hb5⟩;have HO5:=hid (own_later HO.out (btr (bdr (bre _)) hb5));have hsp:=Ow.spot HO5.out i HIL.out;obtain ⟨x1,x2,x3,hc5,hf5⟩:=hsp;have HST:=hid (Ow.stored HO5.out i HIL.out (v1,t1,b1));have HB5:Hid (Below W0.heap.size W0 w5):=btr (bdr HB.out) hb5))
      all_goals
       go_wp2
       go_roundw
       case rel=>exact ⟨i+1,by omega,by go_num,HST.out.cast (by rw [← hj.out,← HSP.out];exact sfil_set l m t b i hil),bset (bset (bset HB5.out HGG.out _) HGG.out _) HGG.out _⟩
       case measure=>simp [intOf];omega
    ·have HE:Hid (sfil l m t b i=sl l m t b):=by
      have:=HN3.out
      have hi3:i=3:=by omega
      subst hi3
      exact sfil_all l m t b HOK.out HM.out (by rw [HL.out];exact HN3.out)
     go_wp2
     go_ret
     exact ⟨_,rfl,own_base (B':=W0.heap.size) (HO.out.cast HE.out) B0.out.size,btr B0.out HB.out⟩
  ·have HSL:=hid (sl_not l m t b (by intro h;exact hm h.2))
   have hd:decide (0≤m∧m≤7)=false:=by simpa using hm
   rw [hd]
   clear hm hd
   go_wp2
   go_ret
   exact ⟨_,rfl,own_base (B':=W0.heap.size) (by rw [HSL.out];exact HO2.out) B0.out.size,btr B0.out HG2.out⟩
def gd (p:R3):Prop:=(0≤p.1∧p.1<2)∧0≤p.2.1∧p.2.1<12∧1≤p.2.2∧p.2.2≤2
theorem Ow.keep {W W':World} {B cb:Nat} {v:Value} {l:List R3} (h:Ow W B v l) (hg:W.grownBy W' (some cb)) (hc:cb<B):Ow W' B v l :=
 World.ownsRow.kept h hg (by
   cases hv:v.ownBlock with
   | none=>exact Or.inl rfl
   | some k=>right;have:=(World.ownsRow.lt h k hv).1;intro e;simp at e;omega)
theorem Sg.same {W W':World} {k ty:Nat} {t b:Int} (h:Sg W k ty t b) (e:W'.heap[k]?=W.heap[k]?):Sg W' k ty t b:=e.trans h
theorem step_append_rg2 {ops:Array Oper} {o:Oper} {a:Act} {w:World} {K:Act→World→Prop} {Q:Exit→Act→World→Prop} {E:Prop}
  (hg:o.guard=none) (s x:Operand) (hop:o.op=Op.call { callee:=Callee.builtin Builtin.append,args:=#[s,x],argTypes:=#[84,84] })
  (base:Nat) (v:Value) (l:List R3) (hs:a.eval s=v) (p q r:Int) (hown:Ow w base v l)
  (hx:a.eval x=.slice (some ⟨w.heap.size,0,none⟩) 1 1) (hlen:l.length≤1048576) (hbase:base≤w.heap.size)
  (hK:∀ v' w',Ow w' base v' (l++[(p,q,r)])→Below base w w'→(∀ k,k<w.heap.size→some k≠v.ownBlock→w'.heap[k]?=w.heap[k]?)→K (a.put o.dst v') w') :
  if Region.wanted o (yielded ops a.tmps)=true then Oper.wp Tryz.prog o a (w.alloc (.cells #[.int .i64 p,.int .i64 q,.int .i64 r] 123)) K Q else E:=by
 have hw:Region.wanted o (yielded ops a.tmps)=true:=by simp [Region.wanted,hg]
 rw [if_pos hw]
 obtain ⟨i0,hi,hz0,hz1,hz2⟩:=info_parts3 info_rg
 refine wp_append_own _ s x 84 hop base 123 i0 _ 3 24 Tryz.underlying84 hi hz0 hz1 hz2 rfl (by decide) v _ _ hs (hown.alloc _) ⟨w.heap.size,0,none⟩ 1 1 (fl [(p,q,r)]) hx rfl (cells_new3 w (p,q,r) 123) (fl_one _) (by unfold maxLen;omega) (by omega) (by simp;omega) ?_
 intro v' w' hown' hgr _
 refine hK v' w' ?_ (((Below.refl base w).alloc hbase _).grown hgr (by simp;omega) (fun k hk=>(hown.lt k hk).1)) (fun k hk hne=>(hgr.block k (by simp;omega) hne).trans (Below.heap_alloc w _ k hk))
 unfold Ow;rw [fl_app];simpa using hown'
set_option maxHeartbeats 800000 in
set_option maxRecDepth 100000 in
theorem l04Flags_any (cb:Nat) (ao:Option Addr) (n cap:Nat) (w:World) (hn:n≤1048576) (hcur:Cur w cb ao n cap) (hcode:Code w cb ao n) :
  Calls Tryz.prog 192 #[.pointer (some ⟨cb,0,none⟩)] w fun e w'=>∃ (v:Value) (l:List R3),l.length=3∧(∀ p∈l,gd p)∧e=.returned v∧Ow w' w.heap.size v l∧Cur w' cb ao n cap∧w.grownBy w' (some cb):=by
 have hlt:=hcur.lt
 have HC:=hid hcur
 have HO:=hid hcode
 clear hcur hcode
 go_enter Tryz.func192,Tryz.ntmps192
 go_wp2
 go_loopw [3,4] (fun vv iv wr=>∃ l:List R3,l.length≤3∧iv=.int .i64 (l.length:Int)∧(∀ p∈l,gd p)∧Ow wr w.heap.size vv l∧Cur wr cb ao n cap∧w.grownBy wr (some cb)) (fun _ iv _=>3 - (intOf iv).toNat)
 case atStart=>exact ⟨[],by decide,rfl,by simp,own_empty w _ (Nat.le_refl _),HC.out.alloc _,World.grownBy_alloc _ _ _⟩
 case round =>
  obtain ⟨l,hl3,rfl,hgd,hown,hcur,hg⟩:=hrel
  have HGD:=hid hgd
  have HOW:=hid hown
  have HCU:=hid hcur
  have HG:=hid hg
  obtain ⟨i,hi⟩:∃ i,l.length=i:=⟨_,rfl⟩
  have HI:=hid hi
  rw [hi] at hl3 ⊢
  clear hgd hown hcur hg hi
  by_cases h3:i<3
  ·go_wp2_with fail
   refine (l03Stamp_any cb ao n cap _ hn HCU.out (HO.out.later HG.out)).mono ?_;rintro e w1 ⟨t,b,htb,rfl,hc1,hg1⟩
   have HTB:=hid htb
   obtain ⟨W1,hW1⟩:∃ W1,w1.alloc (.cells #[.int .i64 t,.int .i64 b] 34)=W1:=⟨_,rfl⟩
   have A1:Hid (Sg W1 w1.heap.size 34 t b):=by subst hW1;exact Sg.new w1 _ t b
   have O1:Hid (Ow W1 w.heap.size u3 l):=by subst hW1;exact own_later (Ow.keep HOW.out hg1 hlt) (bpush (bre _) _)
   have C1:Hid (Cur W1 cb ao n cap):=by subst hW1;exact hc1.alloc _
   have G1:Hid (w.grownBy W1 (some cb)):=by subst hW1;exact gal (only_trans HG.out hg1) _
   have HOB:Hid (∀ k,u3.ownBlock=some k→k<w1.heap.size):=fun k hk=>(World.ownsRow.lt (Ow.keep HOW.out hg1 hlt) k hk).2
   have HS1:Hid (w.heap.size≤w1.heap.size):=(only_trans HG.out hg1).size
   clear hc1 hg1 htb
   go_wp2_with fail
   clear hW1
   go_region_held3 (fun W=>W.cell? ⟨w1.heap.size,0,none⟩=some (.int .i64 t)∧W.cell? ⟨w1.heap.size,1,none⟩=some (.int .i64 b))
    (first | exact A1.out.cells | exact SG2.out.cells | exact (SG2.out.later (bpush (bre _) _)).cells | exact SG3.out.cells)
    ((first
      | (go_at_call 39;refine (below4 cb ao n cap _ hn C1.out.drew (HO.out.later (gdr G1.out)) 2 (by decide) (by decide)).mono ?_;rintro e w2 ⟨x,hx,rfl,hc2,hg2⟩;have SG2:Hid (Sg w2 w1.heap.size 34 t b):=Sg.kept (W:=W1.drew) A1.out hg2 (by have:=HS1.out;omega);have O2:Hid (Ow w2 w.heap.size u3 l):=Ow.keep (W:=W1.drew) O1.out hg2 hlt;have HG2:Hid (w.grownBy w2 (some cb)):=only_trans (gdr G1.out) hg2;have HX:=hid hx)
      | (refine step_append_rg2 rfl (.tmp 13) (.tmp 18) rfl w.heap.size _ _ (by rfl) x t b O2.out (by rfl) (by rw [HI.out];omega) HG2.out.size ?_;intro v3 w3 hown3 hb3 hk3;have SG3:Hid (Sg w3 w1.heap.size 34 t b):=Sg.same SG2.out (hk3 _ SG2.out.lt (fun e=>by have:=HOB.out _ e.symm;omega)))))
   all_goals
    go_wp2
    go_roundw
    case rel=>exact ⟨l++[((x:Int),t,b)],by rw [List.length_append,HI.out];simp;omega,by rw [List.length_append,HI.out];go_num,by intro p hp;rw [List.mem_append] at hp;rcases hp with hp | hp;exact HGD.out p hp;simp at hp;subst hp;exact ⟨by have:=HX.out;omega,HTB.out⟩,hown3,hc2.later hb3 hlt,only_add HG2.out hb3⟩
    case measure=>simp [intOf];omega
  ·have HE:Hid (l.length=3):=by show _=_;rw [HI.out];omega
   go_wp2
   go_ret
   exact ⟨_,l,HE.out,HGD.out,rfl,HOW.out,HCU.out,HG.out⟩
end Go.Proofs.YtkbecgcbheopnaaGreat
namespace Go.Proofs.YtkbecgcbheopnaaGreat
open Go.RowKit
theorem Ow.solid' {W:World} {B:Nat} {v:Value} {l:List R3} (h:Ow W B v l) (hl:0<l.length):∃ g c,v=.slice (some ⟨g,0,none⟩) l.length c∧B≤g∧l.length≤c∧(c:Int)≤9223372036854775807:=by
 rcases h.2 with ⟨h1,h2⟩ | ⟨g,cap,cur,h1,h2,h3,h4,h5,_⟩
 ·omega
 ·exact ⟨g,cap,h1,h2,h4,by unfold maxLen at h5;omega⟩
def Dl (W:World) (B:Nat) (v:Value) (l:List R3):Prop:=∃ (a:Option Addr) (c:Nat),v=.slice a l.length c∧l.length≤4∧l.length≤c∧(a=none→c=0)∧Rs W a l∧∀ x,a=some x→B≤x.block
theorem Dl.of {W:World} {B B':Nat} {v:Value} {l:List R3} (h:Ow W B v l) (h0:0<l.length) (h4:l.length≤4) (hB:B'≤B):Dl W B' v l:=by
 obtain ⟨g,c,rfl,hg,hc,_⟩:=h.solid' h0
 exact ⟨_,c,rfl,h4,hc,(by intro e;cases e),(Ow.rs h).2,by intro x e;simp at e;subst e;exact Nat.le_trans hB hg⟩
theorem Dl.later {W W':World} {B:Nat} {v:Value} {l:List R3} (h:Dl W B v l) (hb:Below W.heap.size W W'):Dl W' B v l:=by
 obtain ⟨a,c,h1,h2,h3,h4,h5,h6⟩:=h
 exact ⟨a,c,h1,h2,h3,h4,h5.later hb,h6⟩
theorem Dl.set {W:World} {B k o:Nat} {u v:Value} {l:List R3} (h:Dl W B v l) (hk:k<B):Dl (W.setCell ⟨k,o,none⟩ u) B v l:=by
 obtain ⟨a,c,h1,h2,h3,h4,h5,h6⟩:=h
 exact ⟨a,c,h1,h2,h3,h4,h5.grown (only_set (cb:=k)) (fun x e=>by have:=h6 x e;omega),h6⟩
theorem Code.over {w W:World} {n:Nat} {ao:Option Addr} (h:Code w w.heap.size ao n) (hb:Below w.heap.size w W):Code W W.heap.size ao n:=by
 intro hn
 obtain ⟨b,off,h1,h2,h3⟩:=h hn
 refine ⟨b,off,h1,Nat.lt_of_lt_of_le h2 hb.size,fun j hj=>?_⟩
 obtain ⟨z,hz,hc⟩:=h3 j hj
 exact ⟨z,hz,(hb.cell (p:=⟨b,off+j,none⟩) h2).trans hc⟩
theorem Row.tail {W:World} {k o:Nat} {p:R3} {l:List R3} (h:Row W k o (p::l)):Row W k (o+3) l:=by
 intro i hi
 have:=h (i+1) (by simpa using hi)
 rw [show o+(i+1)*3=o+3+i*3 by omega] at this
 simpa using this
set_option maxHeartbeats 1600000 in
set_option maxRecDepth 100000 in
theorem l04Any_any (cb:Nat) (ao:Option Addr) (n cap:Nat) (w:World) (hn:n≤1048576) (hcur:Cur w cb ao n cap) (hcode:Code w cb ao n) :
  Calls Tryz.prog 179 #[.pointer (some ⟨cb,0,none⟩)] w fun e w'=>∃ (v:Value) (l:List R3),e=.returned v∧Dl w' w.heap.size v l∧Cur w' cb ao n cap∧w.grownBy w' (some cb):=by
 have hlt:=hcur.lt
 have HC:=hid hcur
 have HO:=hid hcode
 clear hcur hcode
 go_enter Tryz.func179,Tryz.ntmps179
 go_wp2_with fail
 refine (below4 cb ao n cap _ hn HC.out HO.out 10 (by decide) (by decide)).mono ?_;rintro e w1 ⟨x,hx,rfl,hc1,hg1⟩
 have C1:=hid hc1
 have G1:=hid hg1
 clear hc1 hg1
 go_wp2_with fail
 refine (l04Flags_any cb ao n cap _ hn C1.out (HO.out.later G1.out)).mono ?_;rintro e w2 ⟨v,l,hl,_,rfl,hown,hc2,hg2⟩
 have C2:=hid hc2
 have G2:=hid (only_trans G1.out hg2)
 have O2:=hid hown
 have hs1:=G1.out.size
 have hs2:=hg2.size
 have HL:=hid hl
 clear hc2 hg2 hown hl
 have D2:=hid (Dl.of O2.out (by rw [HL.out];decide) (by rw [HL.out];decide) hs1)
 by_cases h0:x=0
 ·subst h0
  go_wp2_with (at_builtin;refine wpList_append_rg w2 rfl (.tmp 12) (.tmp 14) rfl w1.heap.size _ _ (by rfl) O2.out _ _ _ rfl (by rw [HL.out];decide) hs2 ?_;rotate_right;intro v3 w3 hown3 hb3)
  go_ret
  exact ⟨_,_,rfl,Dl.of hown3 (by simp) (by rw [List.length_append,HL.out];decide) hs1,C2.out.later hb3 (by omega),only_add G2.out (hb3.mono hs1)⟩
 ·by_cases h1:x=1
  ·subst h1
   obtain ⟨g,c,hv,hg,hlc,hcm⟩:=O2.out.solid' (by rw [HL.out];decide)
   rw [HL.out] at hv hlc
   subst hv
   have DT:Hid (∃ l':List R3,l'.length=2∧Dl w2 w.heap.size (.slice (some ⟨g,3,none⟩) 2 (c - 1)) l'):=by
    show ∃ l':List R3,_
    have hl:=HL.out
    match l,hl with
    | p::l',hl =>
     have hl2:l'.length=2:=by simpa using hl
     obtain ⟨k,o,he,hk,hrow⟩:=(Ow.rs O2.out).2 (by simp)
     simp only [Option.some.injEq,Addr.mk.injEq,and_true] at he
     obtain ⟨rfl,rfl⟩:=he
     exact ⟨l',hl2,_,c - 1,by rw [hl2],by omega,by omega,(by intro e;cases e),fun _=>⟨g,3,rfl,hk,by simpa using hrow.tail⟩,by intro x e;simp at e;subst e;exact Nat.le_trans hs1 hg⟩
   go_wp2
   go_ret
   obtain ⟨l',_,hd⟩:=DT.out
   exact ⟨_,l',rfl,hd,C2.out,G2.out⟩
  ·by_cases h2:x=2
   ·subst h2
    obtain ⟨g,c,hv,hg,hlc,hcm⟩:=O2.out.solid' (by rw [HL.out];decide)
    rw [HL.out] at hv hlc
    subst hv
    have HGG:=hid hg
    clear hg hlc hcm
    go_wp2_with fail
    refine (below4 cb ao n cap _ hn C2.out (HO.out.later G2.out) 3 (by decide) (by decide)).mono ?_;rintro e w3 ⟨y,hy,rfl,hc3,hg3⟩
    have C3:=hid hc3
    have G3:=hid (only_trans G2.out hg3)
    have O3:=hid (Ow.keep O2.out hg3 (by omega))
    clear hc3 hg3
    go_wp2_with fail
    refine (l03Reg_any cb ao n cap _ hn C3.out (HO.out.later G3.out)).mono ?_;rintro e w4 ⟨v4,t4,b4,rfl,hc4,hg4⟩
    have C4:=hid hc4
    have G4:=hid (only_trans G3.out hg4)
    have O4:=hid (Ow.keep O3.out hg4 (by omega))
    clear hc4 hg4
    have hyl:y<l.length:=by rw [HL.out];omega
    obtain ⟨x1,x2,x3,hc5,hf5⟩:=Ow.spot O4.out y hyl
    have HST:=hid (Ow.stored O4.out y hyl (v4,t4,b4))
    have HNE:Hid (g≠cb):=by have:=HGG.out;show _≠_;omega
    have HWG:Hid (w.heap.size≤g):=Nat.le_trans hs1 HGG.out
    clear hyl
    go_wp2
    go_ret
    exact ⟨_,_,rfl,Dl.of HST.out (by simp [HL.out]) (by simp [HL.out]) hs1,((C4.out.set HNE.out).set HNE.out).set HNE.out,gset (gset (gset G4.out HWG.out _ _) HWG.out _ _) HWG.out _ _⟩
   ·go_wp2
    go_ret
    exact ⟨_,l,rfl,D2.out,C2.out,G2.out⟩
theorem three {l:List R3} (h:l.length=3):∃ p q r,l=[p,q,r]:=by
 match l,h with
 | [p,q,r],_=>exact ⟨p,q,r,rfl⟩
theorem bdn {B:Nat} {w w1:World} (h:Below B w w1) (k:Nat):Below B w (w1.drewN k):=⟨h.os,h.tape,h.output,h.size,h.block⟩
theorem bigF_no (ao:Option Addr) (n cap:Nat) (w:World) (hn:n≤1048576):Calls Tryz.prog 5 #[.slice ao n cap] w fun e w'=>e=.returned (.bool false)∧w'=w:=by
 go_enter Tryz.func5,Tryz.ntmps5
 go_wp2
 go_ret
 exact ⟨ret_bool (by simp;omega),rfl⟩
theorem bigF_yes (ao:Option Addr) (n cap:Nat) (w:World) (hn:¬ n≤1048576):Calls Tryz.prog 5 #[.slice ao n cap] w fun e w'=>e=.returned (.bool true)∧w'=w:=by
 go_enter Tryz.func5,Tryz.ntmps5
 go_wp2
 go_ret
 exact ⟨ret_bool (by simp;omega),rfl⟩
end Go.Proofs.YtkbecgcbheopnaaGreat
