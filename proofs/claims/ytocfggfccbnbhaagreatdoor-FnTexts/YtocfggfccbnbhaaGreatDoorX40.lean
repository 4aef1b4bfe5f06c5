/- Te0, Tkl. -/
import Derived.Test.YtocfggfccbnbhaaGreatDoorX30
import Derived.Test.YtocfggfccbnbhaaGreatDoorX34
namespace Go.Proofs.YtocfggfccbnbhaaGreatDoor
open Go.RowKit Go.ChangeMaps
set_option maxHeartbeats 16000000
set_option maxRecDepth 100000
def rbF (s:ByteArray) (a:Int):X7×Int×Bool:=match rbx s a with | none=>((0,⟨#[]⟩,0,0,0,[],[]),0,false) | some (x,c)=>(x,c,true)
def rsF (s:ByteArray):Int×Int×List X7×List Int×Bool:=match rst s with | none=>(0,0,[],[],false) | some (y,tm,S,G)=>(y,tm,S,G,true)
def RbF (g:Int) (nm:ByteArray) (t b nx:Int) (L:List M4) (G:List Int) (c:Int) (q:Bool) (w:World) (e:Ending) (w':World):Prop :=
 ∃ ma mc ga gc,e=.returned (.tuple #[.agg #[.int .i64 g,.string nm,.int .i64 t,.int .i64 b,.int .i64 nx,.slice ma L.length mc,.slice ga G.length gc],.int .i64 c,.bool q])∧Bz w' ma L.length mc ga G.length gc L G∧Below w.heap.size w w'
def RsF (y tm:Int) (S:List X7) (G:List Int) (q:Bool) (w:World) (e:Ending) (w':World):Prop :=
 ∃ ba bc ga gc,e=.returned (.tuple #[.agg #[.int .i64 y,.int .i64 tm,.slice ba S.length bc,.slice ga G.length gc],.bool q])∧Tz w' ba S.length bc ga G.length gc S G∧Below w.heap.size w w'
theorem bz_nil (W:World):Bz W none 0 0 none 0 0 [] [] :=
 ⟨rfl,Nat.zero_le _,(fun m hm=>by cases hm),⟨0,0,Nat.zero_le _,fun i hi=>absurd hi (Nat.not_lt_zero _)⟩,fun _=>rfl,rfl,Nat.zero_le _,⟨0,0,Nat.zero_le _,fun i hi=>absurd hi (Nat.not_lt_zero _)⟩,fun _=>rfl⟩
theorem tz_nil (W:World):Tz W none 0 0 none 0 0 [] [] :=
 ⟨0,0,rfl,Nat.zero_le _,(fun m hm=>by cases hm),⟨Nat.zero_le _,fun i hi=>absurd hi (Nat.not_lt_zero _)⟩,fun _=>rfl,rfl,Nat.zero_le _,⟨Nat.zero_le _,fun i hi=>absurd hi (Nat.not_lt_zero _)⟩,fun _=>rfl⟩
theorem bx_sm {g:Int} {nm:ByteArray} {t b nx:Int} {L:List M4} {G:List Int} (h:bxOk g nm t b nx L G=true):L.length≤1048576∧Sm L∧G.length≤1048576∧nm.size≤1048576:=by
 obtain ⟨-,p2,-,-,p5,p6,p7,-⟩:=bx_txt h;refine ⟨by omega,fun m hm=>?_,by omega,by omega⟩;obtain ⟨-,-,h3,-,h5⟩:=mlOk_in (p6 m hm);exact ⟨by omega,by omega⟩
theorem RbPost.f {s:ByteArray} {a:Int} {w w':World} {e:Ending} {g:Int} {nm:ByteArray} {t b nx:Int} {L:List M4} {G:List Int} {c:Int} {q:Bool} (hq:rbF s a=((g,nm,t,b,nx,L,G),c,q)) (h:RbPost s a w e w'):RbF g nm t b nx L G c q w e w':=by
 rcases h with ⟨h1,rfl,hb⟩ | ⟨g',nm',t',b',nx',L',G',c',mv,gv,h1,h2,rfl,ho,hb⟩
 ·unfold rbF at hq
  rw [h1] at hq;simp only [Prod.mk.injEq] at hq;obtain ⟨⟨rfl,rfl,rfl,rfl,rfl,rfl,rfl⟩,rfl,rfl⟩:=hq;exact ⟨none,0,none,0,rfl,bz_nil _,hb⟩
 unfold rbF at hq;rw [h1] at hq;simp only [Prod.mk.injEq] at hq;obtain ⟨⟨rfl,rfl,rfl,rfl,rfl,rfl,rfl⟩,rfl,rfl⟩:=hq;obtain ⟨k1,k2,k3,k4⟩:=bx_sm h2;obtain ⟨a,c,a',c',rfl,rfl,hz⟩:=own_bz ho k1 k2 k3;exact ⟨a,c,a',c',rfl,hz.bz,hb⟩
theorem RsPost.f {s:ByteArray} {w w':World} {e:Ending} {y tm:Int} {S:List X7} {G:List Int} {q:Bool} (hq:rsF s=(y,tm,S,G,q)) (h:RsPost s w e w'):RsF y tm S G q w e w':=by
 rcases h with ⟨h1,rfl,hb⟩ | ⟨y',tm',S',G',bv,gv,h1,h2,rfl,ho,hb⟩
 ·unfold rsF at hq
  rw [h1] at hq;simp only [Prod.mk.injEq] at hq;obtain ⟨rfl,rfl,rfl,rfl,rfl⟩:=hq;exact ⟨none,0,none,0,rfl,tz_nil _,hb⟩
 unfold rsF at hq;rw [h1] at hq;simp only [Prod.mk.injEq] at hq;obtain ⟨rfl,rfl,rfl,rfl,rfl⟩:=hq;obtain ⟨k1,k2,k3,-,-⟩:=sOk_sb h2;obtain ⟨a,c,a',c',rfl,rfl⟩:=ho.shape;exact ⟨a,c,a',c',rfl,(ho.tg (by omega) k2 (by omega)).tz,hb⟩
theorem rsF_size {s:ByteArray} {y tm:Int} {S:List X7} {G:List Int} {q:Bool} (hq:rsF s=(y,tm,S,G,q)):q=true→sOk y tm S G=true∧stx y tm S G++tail4 (stx y tm S G)=s:=by
 intro h;unfold rsF at hq
 cases h1:rst s with
 | none=>rw [h1] at hq;simp only [Prod.mk.injEq] at hq;obtain ⟨-,-,-,-,rfl⟩:=hq;cases h
 | some p =>
  rw [h1] at hq;obtain ⟨y',tm',S',G'⟩:=p;simp only [Prod.mk.injEq] at hq;obtain ⟨rfl,rfl,rfl,rfl,-⟩:=hq;exact rst_stood h1
theorem rsF_here {y tm:Int} {S:List X7} {G:List Int} (h:sOk y tm S G=true):rsF (stx y tm S G++tail4 (stx y tm S G))=(y,tm,S,G,true):=by
 unfold rsF;rw [rst_here h]
theorem rbF_here {g:Int} {nm:ByteArray} {t b nx:Int} {L:List M4} {G:List Int} (h:bxOk g nm t b nx L G=true):rbF ((⟨#[120]⟩:ByteArray)++btx g nm t b nx L G++(⟨#[121]⟩:ByteArray)) 1=((g,nm,t,b,nx,L,G),1+((btx g nm t b nx L G).size:Int),true):=by
 have hat:At ((⟨#[120]⟩:ByteArray)++btx g nm t b nx L G++(⟨#[121]⟩:ByteArray)) 1 (bl (btx g nm t b nx L G)):=by
  refine ⟨by omega,?_,bl ⟨#[121]⟩,?_⟩
  ·rw [ByteArray.size_append,ByteArray.size_append]
   have:(⟨#[120]⟩:ByteArray).size=1:=rfl
   omega
  rw [bl_app,bl_app,List.append_assoc]
  rfl
 unfold rbF;rw [rbx_here h hat]
section
variable {P:Program} {ops:Array Oper} {Q:Exit→Act→World→Prop} {md:Region.Mode} {S:World→Prop} {ps:String} {af:Array Edge} {v:Value} {fuel:Nat} {listed:Array Bool} {a:Act} {w:World}
theorem tk4 (i:Nat) (d:Option Tmp) (o:Op) (t:TypeId) (gd:Option (Nat×Bool)) (h:wpAnyH P md ops Q S fuel (listed.setIfInBounds i true) (a.put d v) w)
    (hi:ops[i]?=some ⟨d,o,t,ps,af,gd⟩:=by rfl) (hs:Region.noSelect ops=true:=by as_aux_lemma=>kernel_rfl) (hf:Region.free md ops listed i=true:=by as_aux_lemma=>kernel_rfl) (hr:(Region.ready md ops listed).contains i=true:=by as_aux_lemma=>kernel_rfl)
    (hw:Region.wanted ⟨d,o,t,ps,af,gd⟩ (yielded ops a.tmps)=true:=by rfl) (hy:∀ w,S w→(execOp a.eval ⟨d,o,t,ps,af,gd⟩).run P w=.ok (.value v) w:=by (intro w hSw;(try dsimp only at hSw);go_simp;try with_reducible rfl)) (hS:S w:=by assumption)
    (hQ:∀ c a w,Q (.panic c) (a.put d v) w→Q (.panic c) a w:=by exact fun _ _ _ h=>h):wpAnyH P md ops Q S (fuel+1) listed a w :=
  wpAnyH_take hi hs hf hr hQ (Or.inl ⟨hw,hy⟩) hS h
theorem tk5 (i:Nat) (d:Option Tmp) (o:Op) (t:TypeId) (gd:Option (Nat×Bool)) (hy:∀ w,S w→(execOp a.eval ⟨d,o,t,ps,af,gd⟩).run P w=.ok (.value v) w) (h:wpAnyH P md ops Q S fuel (listed.setIfInBounds i true) (a.put d v) w)
    (hi:ops[i]?=some ⟨d,o,t,ps,af,gd⟩:=by rfl) (hs:Region.noSelect ops=true:=by as_aux_lemma=>kernel_rfl) (hf:Region.free md ops listed i=true:=by as_aux_lemma=>kernel_rfl) (hr:(Region.ready md ops listed).contains i=true:=by as_aux_lemma=>kernel_rfl)
    (hw:Region.wanted ⟨d,o,t,ps,af,gd⟩ (yielded ops a.tmps)=true:=by rfl) (hS:S w:=by assumption)
    (hQ:∀ c a w,Q (.panic c) (a.put d v) w→Q (.panic c) a w:=by exact fun _ _ _ h=>h):wpAnyH P md ops Q S (fuel+1) listed a w :=
  wpAnyH_take hi hs hf hr hQ (Or.inl ⟨hw,hy⟩) hS h
theorem ry2 (i:Nat) (d:Option Tmp) (o:Op) (t:TypeId) (gd:Option (Nat×Bool))
    (h:∀ K':Act→World→Prop,Shut (∀ a w,S w→(S w→wpAnyH P md ops Q S fuel (listed.setIfInBounds i true) a w)→K' a w)→if Region.wanted ⟨d,o,t,ps,af,gd⟩ (yielded ops a.tmps)=true then Oper.wp P ⟨d,o,t,ps,af,gd⟩ a w K' Q else K' (a.put d undef) w)
    (hr:Region.ready md ops listed=[i]:=by as_aux_lemma=>kernel_rfl) (hi:ops[i]?=some ⟨d,o,t,ps,af,gd⟩:=by rfl):wpAnyH P md ops Q S (fuel+1) listed a w:=wpAnyH_ready hr (by simp) (AllReadyH.cons hi h AllReadyH.nil)
end
end Go.Proofs.YtocfggfccbnbhaaGreatDoor
