/- Bdp, Bdl. -/

import Derived.Test.YtkbecgcbheopnaaGreatdUsw
namespace Go.Proofs.YtkbecgcbheopnaaGreat
open Go.RowKit Go.ChangeMaps
def gdm (m:M4):Prop:=(10≤m.1∧m.1≤18)∧∀ p∈m.2.2.1,gd p
structure Dbx (k:Nat) (g:Int) (nm:ByteArray) (t b nx:Int) (L:List M4) (G:List Int):Prop where
 right:bxOk g nm t b nx L G=true
 next:nx≤4+(k:Int)
 gone:G.length≤k
 each:∀ m∈L,gdm m
 out:∀ x∈G,10≤x∧x≤18
section
variable {k:Nat} {g:Int} {nm:ByteArray} {t b nx:Int} {L:List M4} {G:List Int}
theorem Dbx.mono {k':Nat} (h:Dbx k g nm t b nx L G) (hk:k≤k'):Dbx k' g nm t b nx L G :=
 ⟨h.right,by have:=h.next;omega,Nat.le_trans h.gone hk,h.each,h.out⟩
theorem gd_fnew {fl st sb:Int} (hs:0≤st∧st<12∧1≤sb∧sb≤2):∀ p∈fnew fl st sb,gd p:=by
 intro p hp
 simp only [fnew,List.mem_cons,List.not_mem_nil,or_false] at hp
 have h0:=bit_le fl 0
 have h1:=bit_le fl 1
 have h2:=bit_le fl 2
 rcases hp with rfl | rfl | rfl
 ·exact ⟨⟨h0.1,by omega⟩,hs⟩
 ·exact ⟨⟨h1.1,by omega⟩,hs⟩
 ·exact ⟨⟨h2.1,by omega⟩,hs⟩
theorem gd_sl {l:List R3} {n st sb:Int} (hs:0≤st∧st<12∧1≤sb∧sb≤2) (h:∀ p∈l,gd p):∀ p∈sl l n st sb,gd p:=by
 intro p hp
 unfold sl at hp
 split at hp
 ·obtain ⟨i,hi,rfl⟩:=List.mem_mapIdx.1 hp
  have ho:=h l[i] (List.getElem_mem hi)
  unfold sp
  split
  ·exact ho
  ·unfold pp
   split
   ·have h0:=bit_le n i
    exact ⟨⟨h0.1,by show bit n i<2;omega⟩,hs⟩
   ·exact ho
 ·exact h p hp
theorem Dbx.add {gid fl:Int} {tx:ByteArray} {st sb:Int} (h:Dbx k g nm t b nx L G) (hg:10≤gid∧gid≤18) (hs:0≤st∧st<12∧1≤sb∧sb≤2) :
  Dbx (k+1) g nm t b (amN (amOk g nm t b nx L G gid fl tx st sb) nx) (amL (amOk g nm t b nx L G gid fl tx st sb) L (nwm gid nx fl tx st sb)) G:=by
 refine ⟨am_right h.right,?_,Nat.le_succ_of_le h.gone,fun m hm=>?_,h.out⟩
 ·have:=h.next
  unfold amN
  split <;> omega
 ·unfold amL at hm
  split at hm
  ·rcases List.mem_append.1 hm with hm | hm
   ·exact h.each m hm
   ·simp only [List.mem_cons,List.not_mem_nil,or_false] at hm
    subst hm
    exact ⟨hg,gd_fnew hs⟩
  ·exact h.each m hm
theorem Dbx.flag {p:Bool} {gid n st sb:Int} (h:Dbx k g nm t b nx L G) (hs:0≤st∧st<12∧1≤sb∧sb≤2) :
  Dbx (k+1) g nm t b nx (fmL p L gid n st sb) G:=by
 refine ⟨fm_right h.right,by have:=h.next;omega,Nat.le_succ_of_le h.gone,fun m hm=>?_,h.out⟩
 unfold fmL at hm
 split at hm
 ·obtain ⟨x,hx,rfl⟩:=List.mem_map.1 hm
  have hx':=h.each x hx
  split
  ·exact ⟨hx'.1,gd_sl hs hx'.2⟩
  ·exact hx'
 ·exact h.each m hm
theorem Dbx.take {gid:Int} (h:Dbx k g nm t b nx L G) (hg:10≤gid∧gid≤18) :
  Dbx (k+1) g nm t b nx (tkL (tkOk g nm t b nx L G gid) L gid) (tkG (tkOk g nm t b nx L G gid) G gid):=by
 refine ⟨tk_right h.right,by have:=h.next;omega,?_,fun m hm=>h.each m ((tk_sub _ L gid).subset hm),fun x hx=>?_⟩
 ·unfold tkG
  split
  ·next hk =>
   simp only [tkOk,Bool.and_eq_true,decide_eq_true_eq] at hk
   obtain ⟨h1,h2,h3,h4,h5,h6,h7,h8,h9⟩:=bx_iff.1 h.right
   obtain ⟨A,m,C,hL,hm,hA,hC⟩:=any_split h9 hk.2.1
   have hmm:=h7 m (by rw [hL];simp)
   have hgk:gok gid=true:=by
    have:=hmm.1
    simp only [mlOk,Bool.and_eq_true] at this
    rw [← hm]
    exact this.1
   have hni:∀ y∈G,y≠gid:=by rw [← hm];exact inl_not hmm.2.2
   rw [(pin_gn h6 hgk hni hk.2.2).2]
   have:=h.gone
   omega
  ·exact Nat.le_succ_of_le h.gone
 ·unfold tkG at hx
  split at hx
  ·unfold pin at hx
   rcases List.mem_append.1 hx with hx | hx
   ·exact h.out x (List.mem_filter.1 hx).1
   ·rcases List.mem_cons.1 hx with rfl | hx
    ·exact hg
    ·exact h.out x (List.mem_filter.1 hx).1
  ·exact h.out x hx
end
theorem dbx_start {nm:ByteArray} {t b:Int} (y:Nat) (hn:nmOk nm=true) (hs:0≤t∧t<12∧1≤b∧b≤2) (hy:y<4):Dbx 0 7 nm t b (1+(y:Int)) [] []:=by
 refine ⟨bx_iff.2 ⟨by decide,hn,by simp only [stOk,decide_eq_true_eq];omega,⟨by omega,by omega⟩,by simp,by decide,fun m hm=>by simp at hm,List.Pairwise.nil,by decide⟩,by omega,by simp,fun m hm=>by simp at hm,fun x hx=>by simp at hx⟩
theorem Dbx.sm {k:Nat} {g:Int} {nm:ByteArray} {t b nx:Int} {L:List M4} {G:List Int} (h:Dbx k g nm t b nx L G):L.length≤10∧G.length≤40∧Sm L∧nm.size≤12:=by
 obtain ⟨h1,h2,h3⟩:=bx_small h.right
 refine ⟨h1,h2,fun m hm=>?_,?_⟩
 ·have:=h3 m hm
  omega
 ·have:=(bx_iff.1 h.right).2.1
  simp only [nmOk,Bool.and_eq_true,decide_eq_true_eq] at this
  omega
theorem own_none {W:World} {B e size n c m:Nat} {a:Option Addr} {xs:List Value} (h:W.ownsRow B e size (.slice a n c) m xs):a=none→c=0:=by
 intro ha
 subst ha
 rcases h.2 with ⟨h1,_⟩ | ⟨g,cap,cur,h1,_⟩
 ·simpa using congrArg (fun v=>match v with | .slice _ _ c=>c | _=>0) h1
 ·simp at h1
theorem OwB.shape {W:World} {B:Nat} {mv gv:Value} {L:List M4} {G:List Int} (h:OwB W B mv gv L G):∃ a c a' c',mv=.slice a L.length c∧gv=.slice a' G.length c':=by
 obtain ⟨Z,rfl,h2,h3,_⟩:=h
 obtain ⟨a,c,hv⟩:=h2.shape
 obtain ⟨a',c',hv',_⟩:=h3.shape
 exact ⟨a,c,a',c',by rw [List.length_map];exact hv,hv'⟩
theorem OwB.none {W:World} {B n c n' c':Nat} {a a':Option Addr} {L:List M4} {G:List Int} (h:OwB W B (.slice a n c) (.slice a' n' c') L G):(a=none→c=0)∧(a'=none→c'=0):=by
 obtain ⟨Z,_,h2,h3,_⟩:=h
 exact ⟨own_none h2.row,own_none h3⟩
theorem OwB.nil (W:World) (B:Nat):OwB W B (.slice .none 0 0) (.slice .none 0 0) [] [] :=
 ⟨[],rfl,⟨World.ownsRow_nil _ _ _ _,fun z hz=>by simp at hz,fun z hz=>by simp at hz,List.Pairwise.nil⟩,World.ownsRow_nil _ _ _ _,Dj.nil _,fun z hz=>by simp at hz⟩
section
variable {k:Nat} {g:Int} {nm:ByteArray} {t b nx:Int} {L:List M4} {G:List Int}
theorem add_l (h:Dbx k g nm t b nx L G) (mn gn:Nat) (hl:L.length=mn) (hgl:G.length=gn) (gid fl:Int) (tx:ByteArray) (st sb:Int) (hg:10≤gid∧gid≤18) (hs:0≤st∧st<12∧1≤sb∧sb≤2) (htx:tx.size≤1048576) :
  ∃ (p:Bool) (ny:Int) (K:List M4) (N:Nat),Hid (K.length=N)∧Hid (Dbx (k+1) g nm t b ny K G) ∧
   Hid (∀ (lo hh lo' hh':Nat) (ma:Option Addr) (mc:Nat) (ga:Option Addr) (gc:Nat) (w:World),Ms lo hh w ma L→Is lo' hh' w ga G→(ga=none→gc=0) →
     Calls Tryz.prog 76 #[.agg #[.int .i64 g,.string nm,.int .i64 t,.int .i64 b,.int .i64 nx,.slice ma mn mc,.slice ga gn gc],.int .i64 gid,.int .i64 fl,.string tx,.agg #[.int .i64 st,.int .i64 sb]] w fun e w'=>∃ a c a' c',e=.returned (.tuple #[.agg #[.int .i64 g,.string nm,.int .i64 t,.int .i64 b,.int .i64 ny,.slice a N c,.slice a' gn c'],.bool p])∧OwB w' w.heap.size (.slice a N c) (.slice a' gn c') K G∧Below w.heap.size w w'):=by
 obtain ⟨h1,h2,h3,h4⟩:=h.sm
 refine ⟨amOk g nm t b nx L G gid fl tx st sb,amN (amOk g nm t b nx L G gid fl tx st sb) nx,amL (amOk g nm t b nx L G gid fl tx st sb) L (nwm gid nx fl tx st sb),_,rfl,h.add (gid:=gid) (fl:=fl) (tx:=tx) hg hs,fun lo hh lo' hh' ma mc ga gc w hm hi h0=>?_⟩
 refine (specAdd_any lo hh lo' hh' g nm t b nx ma mn mc ga gn gc L G gid fl tx st sb w (by omega) hl (by omega) h3 hm hgl (by omega) hi h0 htx).mono ?_
 rintro e w' ⟨mv,gv,rfl,ho,hb⟩
 obtain ⟨a,c,a',c',rfl,rfl⟩:=ho.shape
 rw [hgl] at ho ⊢
 exact ⟨a,c,a',c',rfl,ho,hb⟩
theorem flag_l (h:Dbx k g nm t b nx L G) (mn gn:Nat) (hl:L.length=mn) (hgl:G.length=gn) (gid n st sb:Int) (hs:0≤st∧st<12∧1≤sb∧sb≤2) :
  ∃ (p:Bool) (K:List M4),Hid (K.length=mn)∧Hid (Dbx (k+1) g nm t b nx K G) ∧
   Hid (∀ (lo hh lo' hh':Nat) (ma:Option Addr) (mc:Nat) (ga:Option Addr) (gc:Nat) (w:World),Ms lo hh w ma L→Is lo' hh' w ga G→(ga=none→gc=0) →
     Calls Tryz.prog 81 #[.agg #[.int .i64 g,.string nm,.int .i64 t,.int .i64 b,.int .i64 nx,.slice ma mn mc,.slice ga gn gc],.int .i64 gid,.int .i64 n,.agg #[.int .i64 st,.int .i64 sb]] w fun e w'=>∃ a c a' c',e=.returned (.tuple #[.agg #[.int .i64 g,.string nm,.int .i64 t,.int .i64 b,.int .i64 nx,.slice a mn c,.slice a' gn c'],.bool p])∧OwB w' w.heap.size (.slice a mn c) (.slice a' gn c') K G∧Below w.heap.size w w'):=by
 obtain ⟨h1,h2,h3,h4⟩:=h.sm
 refine ⟨fmOk g nm t b nx L G gid n st sb,fmL (fmOk g nm t b nx L G gid n st sb) L gid n st sb,?_,h.flag (p:=fmOk g nm t b nx L G gid n st sb) (gid:=gid) (n:=n) hs,fun lo hh lo' hh' ma mc ga gc w hm hi h0=>?_⟩
 ·show _=_
  rw [fmL_len,hl]
 refine (specFlag_any lo hh lo' hh' g nm t b nx ma mn mc ga gn gc L G gid n st sb w (by omega) hl (by omega) h3 hm hgl (by omega) hi h0).mono ?_
 rintro e w' ⟨mv,gv,rfl,ho,hb⟩
 obtain ⟨a,c,a',c',rfl,rfl⟩:=ho.shape
 rw [fmL_len,hl,hgl] at ho ⊢
 exact ⟨a,c,a',c',rfl,ho,hb⟩
theorem take_l (h:Dbx k g nm t b nx L G) (mn gn:Nat) (hl:L.length=mn) (hgl:G.length=gn) (gid:Int) (hg:10≤gid∧gid≤18) :
  ∃ (p:Bool) (K:List M4) (H:List Int) (N M:Nat),Hid (K.length=N)∧Hid (H.length=M)∧Hid (Dbx (k+1) g nm t b nx K H) ∧
   Hid (∀ (lo hh lo' hh':Nat) (ma:Option Addr) (mc:Nat) (ga:Option Addr) (gc:Nat) (w:World),Ms lo hh w ma L→Is lo' hh' w ga G→(ga=none→gc=0) →
     Calls Tryz.prog 85 #[.agg #[.int .i64 g,.string nm,.int .i64 t,.int .i64 b,.int .i64 nx,.slice ma mn mc,.slice ga gn gc],.int .i64 gid] w fun e w'=>∃ a c a' c',e=.returned (.tuple #[.agg #[.int .i64 g,.string nm,.int .i64 t,.int .i64 b,.int .i64 nx,.slice a N c,.slice a' M c'],.bool p])∧OwB w' w.heap.size (.slice a N c) (.slice a' M c') K H∧Below w.heap.size w w'):=by
 obtain ⟨h1,h2,h3,h4⟩:=h.sm
 refine ⟨tkOk g nm t b nx L G gid,tkL (tkOk g nm t b nx L G gid) L gid,tkG (tkOk g nm t b nx L G gid) G gid,_,_,rfl,rfl,h.take (gid:=gid) hg,fun lo hh lo' hh' ma mc ga gc w hm hi h0=>?_⟩
 refine (specTake_any lo hh lo' hh' g nm t b nx ma mn mc ga gn gc L G gid w (by omega) hl (by omega) h3 hm hgl (by omega) hi h0).mono ?_
 rintro e w' ⟨mv,gv,rfl,ho,hb⟩
 obtain ⟨a,c,a',c',rfl,rfl⟩:=ho.shape
 exact ⟨a,c,a',c',rfl,ho,hb⟩
end
end Go.Proofs.YtkbecgcbheopnaaGreat
