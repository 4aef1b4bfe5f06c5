/- Me. -/
import Derived.Test.YtdkedgedkgabnaaGreatDoorX3
namespace Go.Proofs.YtdkedgedkgabnaaGreatDoor
open Go.RowKit Go.ChangeMaps
set_option maxHeartbeats 16000000
set_option maxRecDepth 100000
def Mg (W:World) (k ty:Nat) (g u:Int) (f:Value) (t:ByteArray):Prop:=W.heap[k]?=some (.cells #[.int .i64 g,.int .i64 u,f,.string t] ty (0,0))
theorem Mg.new (w:World) (ty:Nat) (g u:Int) (f:Value) (t:ByteArray):Mg (w.alloc (.cells #[.int .i64 g,.int .i64 u,f,.string t] ty)) w.heap.size ty g u f t:=heap_alloc_new w _
theorem Mg.later {W W':World} {k ty:Nat} {g u:Int} {f:Value} {t:ByteArray} (h:Mg W k ty g u f t) (hb:Below W.heap.size W W'):Mg W' k ty g u f t:=(hb.block k (Array.getElem?_eq_some_iff.1 h).1).trans h
theorem Mg.lt {W:World} {k ty:Nat} {g u:Int} {f:Value} {t:ByteArray} (h:Mg W k ty g u f t):k<W.heap.size:=(Array.getElem?_eq_some_iff.1 h).1
theorem Mg.cells {W:World} {k ty:Nat} {g u:Int} {f:Value} {t:ByteArray} (h:Mg W k ty g u f t):W.cell? ⟨k,0,none⟩=some (.int .i64 g)∧W.cell? ⟨k,1,none⟩=some (.int .i64 u)∧W.cell? ⟨k,2,none⟩=some f∧W.cell? ⟨k,3,none⟩=some (.string t) :=
 ⟨cell_of_row W k 0 _ _ _ h,cell_of_row W k 1 _ _ _ h,cell_of_row W k 2 _ _ _ h,cell_of_row W k 3 _ _ _ h⟩
theorem Mg.loose {W:World} {k ty:Nat} {g u:Int} {f:Value} {t:ByteArray} (h:Mg W k ty g u f t):W.frozen? ⟨k,0,none⟩=false∧W.frozen? ⟨k,1,none⟩=false∧W.frozen? ⟨k,2,none⟩=false∧W.frozen? ⟨k,3,none⟩=false :=
 ⟨frozen_of_row W k 0 _ _ h,frozen_of_row W k 1 _ _ h,frozen_of_row W k 2 _ _ h,frozen_of_row W k 3 _ _ h⟩
theorem Mg.s0 {W:World} {k ty:Nat} {g u:Int} {f:Value} {t:ByteArray} (h:Mg W k ty g u f t) (g':Int):Mg (W.setCell ⟨k,0,none⟩ (.int .i64 g')) k ty g' u f t:=heap_setCell_same W k 0 _ _ (.int .i64 g') h
theorem Mg.s1 {W:World} {k ty:Nat} {g u:Int} {f:Value} {t:ByteArray} (h:Mg W k ty g u f t) (u':Int):Mg (W.setCell ⟨k,1,none⟩ (.int .i64 u')) k ty g u' f t:=heap_setCell_same W k 1 _ _ (.int .i64 u') h
theorem Mg.s2 {W:World} {k ty:Nat} {g u:Int} {f:Value} {t:ByteArray} (h:Mg W k ty g u f t) (f':Value):Mg (W.setCell ⟨k,2,none⟩ f') k ty g u f' t:=heap_setCell_same W k 2 _ _ f' h
theorem Mg.s3 {W:World} {k ty:Nat} {g u:Int} {f:Value} {t:ByteArray} (h:Mg W k ty g u f t) (t':ByteArray):Mg (W.setCell ⟨k,3,none⟩ (.string t')) k ty g u f t':=heap_setCell_same W k 3 _ _ (.string t') h
theorem heap_setCell_far {W:World} {k j i:Nat} {o:Obj} (u:Value) (h:W.heap[k]?=some o) (hk:k≠j):(W.setCell ⟨j,i,none⟩ u).heap[k]?=some o:=(Below.heap_setCell _ _ _ _ hk).trans h
theorem Mg.far {W:World} {k j i ty:Nat} {g u:Int} {f:Value} {t:ByteArray} (h:Mg W k ty g u f t) (x:Value) (hk:k≠j):Mg (W.setCell ⟨j,i,none⟩ x) k ty g u f t:=heap_setCell_far x h hk
theorem bsk {a w:World} (h:Below a.heap.size a w) {k:Nat} (hk:a.heap.size≤k) (i:Nat) (x:Value):Below a.heap.size a (w.setCell ⟨k,i,none⟩ x):=bset h hk x
theorem Ow.other {W W':World} {B g n c k:Nat} {l:List R3} (h:Ow W B (.slice (some ⟨g,0,none⟩) n c) l) (hg:W.grownBy W' (some k)) (hk:g≠k):Ow W' B (.slice (some ⟨g,0,none⟩) n c) l :=
 World.ownsRow.kept h hg (Or.inr (by simpa [Value.ownBlock] using hk))
theorem Ow.far {W:World} {B g n c j:Nat} {l:List R3} (h:Ow W B (.slice (some ⟨g,0,none⟩) n c) l) (hk:g≠j) (i:Nat) (x:Value):Ow (W.setCell ⟨j,i,none⟩ x) B (.slice (some ⟨g,0,none⟩) n c) l :=
 h.other (wst (wre W (some j)) i x) hk
def gok (n:Int):Bool:=decide (1≤n)&&decide (n≤9999)
def mlOk (g u:Int) (l:List R3) (t:ByteArray):Bool:=gok g&&(gok u&&(flOk l&&decide ((t.size:Int)≤60)))
theorem gid_l (x:Int):∃ p:Bool,Hid (p=gok x)∧Hid (∀ w,Calls Tryz.prog 97 #[.int .i64 x] w fun e w'=>e=.returned (.bool p)∧w'=w):=by
 refine ⟨_,rfl,fun w=>?_⟩
 by_cases h1:1≤x
 ·by_cases h2:x≤9999
  ·have HE:Hid (gok x=true):=by show _=_;simp [gok,h1,h2]
   go_enter Tryz.func97,Tryz.ntmps97
   go_wp2
   go_ret
   exact ⟨by rw [HE.out];rfl,rfl⟩
  have HE:Hid (gok x=false):=by show _=_;simp [gok,h2]
  go_enter Tryz.func97,Tryz.ntmps97
  go_wp2
  go_ret
  exact ⟨by rw [HE.out];rfl,rfl⟩
 have HE:Hid (gok x=false):=by show _=_;simp [gok,h1]
 go_enter Tryz.func97,Tryz.ntmps97
 go_wp2
 go_ret
 exact ⟨by rw [HE.out];rfl,rfl⟩
theorem in_l (x:Int):∃ p:Bool,Hid (p=gok x)∧Hid (∀ w,Calls Tryz.prog 57 #[.int .i64 x,.int .i64 1,.int .i64 9999] w fun e w'=>e=.returned (.bool p)∧w'=w):=by
 refine ⟨_,rfl,fun w=>?_⟩
 by_cases h1:1≤x∧x≤9999
 ·have HE:gok x=true:=by simp [gok,h1.1,h1.2]
  rw [HE];exact (l01In_yes x 1 9999 w h1.1 h1.2).mono fun _ _ h=>⟨h.1,h.2.symm⟩
 have HE:gok x=false:=by simp only [gok,Bool.and_eq_false_iff,decide_eq_false_iff_not];omega
 rw [HE];exact (l01In_no x 1 9999 w (by omega)).mono fun _ _ h=>⟨h.1,h.2.symm⟩
theorem implFlagsOk_l (ao:Option Addr) (n cap:Nat) (l:List R3) (hl:l.length=n) (hn:n≤1048576):∃ p:Bool,Hid (p=flOk l)∧Hid (∀ w,Rs w ao l→Calls Tryz.prog 141 #[.slice ao n cap] w fun e w'=>e=.returned (.bool p)∧Below w.heap.size w w') :=
 ⟨_,rfl,fun w h=>implFlagsOk_any ao n cap l w hl hn h⟩
theorem specFlagsOk_l (ao:Option Addr) (n cap:Nat) (l:List R3) (hl:l.length=n) (hn:n≤1048576):∃ p:Bool,Hid (p=flOk l)∧Hid (∀ w,Rs w ao l→Calls Tryz.prog 111 #[.slice ao n cap] w fun e w'=>e=.returned (.bool p)∧Below w.heap.size w w') :=
 ⟨_,rfl,fun w h=>specFlagsOk_any ao n cap l w hl hn h⟩
theorem implMailOk_any (g u:Int) (ao:Option Addr) (n cap:Nat) (l:List R3) (t:ByteArray) (w:World) (hl:l.length=n) (hn:n≤1048576) (hr:Rs w ao l) :
  Calls Tryz.prog 101 #[.agg #[.int .i64 g,.int .i64 u,.slice ao n cap,.string t]] w fun e w'=>e=.returned (.bool (mlOk g u l t))∧Below w.heap.size w w':=by
 obtain ⟨p,hp,cp⟩:=gid_l g;obtain ⟨q,hq,cq⟩:=gid_l u;obtain ⟨r,hr',cr⟩:=implFlagsOk_l ao n cap l hl hn
 have HS:Hid (mlOk g u l t=(p&&(q&&(r&&decide ((t.size:Int)≤60))))):=by show _=_;rw [hp.out,hq.out,hr'.out];rfl
 rw [HS.out];have HR:=hid hr;clear hl hn hr;have A0:=(Mg.new w 78 g u (.slice ao n cap) t).cells
 go_enter Tryz.func101,Tryz.ntmps101
 go_wp2_with fail
 refine (cp.out _).mono ?_;rintro e w1 ⟨rfl,h1⟩;subst h1
 cases p
 ·go_wp2
  go_ret
  exact ⟨rfl,bpush (bre _) _⟩
 go_wp2_with fail
 refine (cq.out _).mono ?_;rintro e w1 ⟨rfl,h1⟩;subst h1
 cases q
 ·go_wp2
  go_ret
  exact ⟨rfl,bpush (bre _) _⟩
 go_wp2_with fail
 refine (cr.out _ (HR.out.later (bpush (bre _) _))).mono ?_;rintro e w1 ⟨rfl,hb1⟩;have d1:=((Mg.new w 78 g u (.slice ao n cap) t).later hb1).cells;have HB1:Hid (Below w.heap.size w w1):=btr (bpush (bre _) _) hb1;clear hb1 A0
 cases r
 ·go_wp2
  go_ret
  exact ⟨rfl,HB1.out⟩
 go_wp2
 go_ret
 exact ⟨rfl,HB1.out⟩
theorem specMailOk_any (g u:Int) (ao:Option Addr) (n cap:Nat) (l:List R3) (t:ByteArray) (w:World) (hl:l.length=n) (hn:n≤1048576) (hr:Rs w ao l) :
  Calls Tryz.prog 65 #[.agg #[.int .i64 g,.int .i64 u,.slice ao n cap,.string t]] w fun e w'=>e=.returned (.bool (mlOk g u l t))∧Below w.heap.size w w':=by
 obtain ⟨p,hp,cp⟩:=in_l g;obtain ⟨q,hq,cq⟩:=in_l u;obtain ⟨r,hr',cr⟩:=specFlagsOk_l ao n cap l hl hn
 have HS:Hid (mlOk g u l t=(p&&(q&&(r&&decide ((t.size:Int)≤60))))):=by show _=_;rw [hp.out,hq.out,hr'.out];rfl
 rw [HS.out];have HR:=hid hr;clear hl hn hr;have A0:=(Mg.new w 78 g u (.slice ao n cap) t).cells
 go_enter Tryz.func65,Tryz.ntmps65
 go_wp2_with fail
 refine (cp.out _).mono ?_;rintro e w1 ⟨rfl,h1⟩;subst h1
 cases p
 ·go_wp2
  go_ret
  exact ⟨rfl,bpush (bre _) _⟩
 go_wp2_with fail
 refine (cq.out _).mono ?_;rintro e w1 ⟨rfl,h1⟩;subst h1
 cases q
 ·go_wp2
  go_ret
  exact ⟨rfl,bpush (bre _) _⟩
 go_wp2_with fail
 refine (cr.out _ (HR.out.later (bpush (bre _) _))).mono ?_;rintro e w1 ⟨rfl,hb1⟩;have d1:=((Mg.new w 78 g u (.slice ao n cap) t).later hb1).cells;have HB1:Hid (Below w.heap.size w w1):=btr (bpush (bre _) _) hb1;clear hb1 A0
 cases r
 ·go_wp2
  go_ret
  exact ⟨rfl,HB1.out⟩
 go_wp2
 go_ret
 exact ⟨rfl,HB1.out⟩
theorem two_mails (w:World) (ta tb:Nat) (g u g1 u1:Int) (f f1:Value) (t t1:ByteArray) (W0:World) (h:((w.alloc (.cells #[.int .i64 g,.int .i64 u,f,.string t] ta)).alloc (.cells #[.int .i64 g1,.int .i64 u1,f1,.string t1] tb))=W0) :
  Mg W0 w.heap.size ta g u f t∧Mg W0 (w.heap.size+1) tb g1 u1 f1 t1∧Below w.heap.size w W0:=by
 subst h;exact ⟨(Mg.new w ta g u f t).later (bpush (bre _) _),by simpa using Mg.new (w.alloc (.cells #[.int .i64 g,.int .i64 u,f,.string t] ta)) tb g1 u1 f1 t1,bpush (bpush (bre _) _) _⟩
theorem take_grow {l m:List R3} {i:Nat} (hl:i<l.length) (hm:i<m.length) (h:l.take i=m.take i) (e:l[i]=m[i]):l.take (i+1)=m.take (i+1):=by
 rw [List.take_succ_eq_append_getElem hl,List.take_succ_eq_append_getElem hm,h,e]
theorem ne_at {l m:List R3} {i:Nat} (hl:i<l.length) (hm:i<m.length) (e:¬ l[i]=m[i]):decide (l=m)=false:=by
 apply decide_eq_false;rintro rfl;exact e rfl
theorem ne_three {v t b v' t' b':Int} (h:¬ ((v,t,b):R3)=(v',t',b')):(v == v')=false∨(v=v'∧(t == t')=false)∨(v=v'∧t=t'∧(b == b')=false):=by
 by_cases h1:v=v'
 ·by_cases h2:t=t'
  ·by_cases h3:b=b'
   ·exact absurd (by rw [h1,h2,h3]) h
   exact Or.inr (Or.inr ⟨h1,h2,beq_eq_false_iff_ne.2 h3⟩)
  exact Or.inr (Or.inl ⟨h1,beq_eq_false_iff_ne.2 h2⟩)
 exact Or.inl (beq_eq_false_iff_ne.2 h1)
def smail (g u:Int) (l:List R3) (t:ByteArray) (g' u':Int) (m:List R3) (t':ByteArray):Bool:=decide (g=g')&&decide (u=u')&&decide (l=m)&&decide (t=t')
theorem bytes_inj {t t':ByteArray} (h:t.toList=t'.toList):t=t':=by
 rw [ByteArray.toList_eq,ByteArray.toList_eq] at h
 cases t;cases t';simp only [ByteArray.mk.injEq];exact Array.toList_inj.1 h
theorem bytes_ne {t t':ByteArray} (h:¬ t=t'):(t.toList == t'.toList)=false:=beq_eq_false_iff_ne.2 fun e=>h (bytes_inj e)
theorem specSame_any (g u:Int) (ao:Option Addr) (na ca:Nat) (l:List R3) (t:ByteArray) (g' u':Int) (bo:Option Addr) (nb cb:Nat) (m:List R3) (t':ByteArray) (w:World) (hl:l.length=na) (hm:m.length=nb) (hna:na≤1048576) (ha:Rs w ao l) (hb:Rs w bo m) :
  Calls Tryz.prog 68 #[.agg #[.int .i64 g,.int .i64 u,.slice ao na ca,.string t],.agg #[.int .i64 g',.int .i64 u',.slice bo nb cb,.string t']] w fun e w'=>e=.returned (.bool (smail g u l t g' u' m t'))∧Below w.heap.size w w':=by
 obtain ⟨W0,hW0⟩:∃ W0,((w.alloc (.cells #[.int .i64 g,.int .i64 u,.slice ao na ca,.string t] 78)).alloc (.cells #[.int .i64 g',.int .i64 u',.slice bo nb cb,.string t'] 78))=W0:=⟨_,rfl⟩;obtain ⟨a0,a1,b0⟩:=two_mails w _ _ _ _ _ _ _ _ _ _ W0 hW0;have A0:=hid a0;have A1:=hid a1;have B0:=hid b0;have HA:=hid (ha.later b0);have HB:=hid (hb.later b0);have HL:=hid hl;have HM:=hid hm;have c0:=a0.cells;have c1:=a1.cells;clear a0 a1 b0 ha hb hl hm
 by_cases hg:g=g'
 ·by_cases hu:u=u'
  ·by_cases ht:t=t'
   ·by_cases hn:na=nb
    ·subst hg hu ht
     have HN:=hid hn
     have hnn:((na:Int) != (nb:Int))=false:=by rw [hn];simp
     have HS:Hid (smail g u l t g u m t=decide (l=m)):=by show _=_;simp [smail]
     rw [HS.out];clear hn
     go_enter Tryz.func68,Tryz.ntmps68
     go_wp2
     clear hnn hW0 c0 c1
     go_loopw [5] (fun iv wr=>∃ i:Nat,i≤na∧iv=.int .i64 (i:Int)∧Hid (l.take i=m.take i)∧Below W0.heap.size W0 wr) (fun iv _=>na - (intOf iv).toNat)
     case atStart=>exact ⟨0,Nat.zero_le _,rfl,rfl,bre _⟩
     case round =>
      obtain ⟨i,hi,rfl,HT,hb⟩:=hrel;have HBE:=hid hb;have d0:=(A0.out.later hb).cells;have d1:=(A1.out.later hb).cells;clear hb
      by_cases hlt:i<na
      ·have hil:i<l.length:=by rw [HL.out];exact hlt
       have him:i<m.length:=by rw [HM.out,← HN.out];exact hlt
       obtain ⟨k,o,rfl,hk,c⟩:=(HA.out.later HBE.out).at hil;obtain ⟨k',o',rfl,hk',d⟩:=(HB.out.later HBE.out).at him
       have hI:(0:Int)≤(i:Int)∧(i:Int)<(na:Int):=by omega
       have hI':(0:Int)≤(i:Int)∧(i:Int)<(nb:Int):=by have:=HN.out;omega
       by_cases he:l[i]=m[i]
       ·have HE:Hid (l.take (i+1)=m.take (i+1)):=take_grow hil him HT.out he
        obtain ⟨p,hp⟩:∃ p,l[i]=p:=⟨_,rfl⟩;rw [hp] at c;rw [← he,hp] at d;obtain ⟨v,t,b⟩:=p;clear hp he
        go_wp2_with fail
        go_quiet (fail)
        go_wp2
        go_roundw
        case rel=>exact ⟨i+1,by omega,by go_num,HE,bdn HBE.out _⟩
        case measure=>simp [intOf];omega
       have HF:Hid (decide (l=m)=false):=ne_at hil him he;obtain ⟨p,hp⟩:∃ p,l[i]=p:=⟨_,rfl⟩;obtain ⟨q,hq⟩:∃ q,m[i]=q:=⟨_,rfl⟩;rw [hp] at c he;rw [hq] at d he;obtain ⟨v,t,b⟩:=p;obtain ⟨v',t',b'⟩:=q;clear hp hq
       rcases ne_three he with h | ⟨rfl,h⟩ | ⟨rfl,rfl,h⟩
       all_goals
        clear he
        go_wp2_with fail
        go_quiet (fail)
        go_wp2
        go_ret
        exact ⟨by rw [HF.out];rfl,btr B0.out (bdn HBE.out _)⟩
      have HE:Hid (decide (l=m)=true):=by
       have h1:=HT.out;rw [List.take_of_length_le (by rw [HL.out];omega),List.take_of_length_le (by rw [HM.out,← HN.out];omega)] at h1;exact decide_eq_true h1
      go_wp2
      go_ret
      exact ⟨by rw [HE.out];rfl,btr B0.out HBE.out⟩
    subst hg hu ht
    have HS:Hid (smail g u l t g u m t=false):=by
     have:decide (l=m)=false:=decide_eq_false (by rintro rfl;exact hn (HL.out.symm.trans HM.out))
     show _=_;simp [smail,this]
    rw [HS.out]
    have hnn:((na:Int) != (nb:Int))=true:=by simp;omega
    clear hn
    go_enter Tryz.func68,Tryz.ntmps68
    go_wp2
    go_ret
    exact ⟨rfl,B0.out⟩
   subst hg hu
   have HS:Hid (smail g u l t g u m t'=false):=by show _=_;simp [smail,ht]
   rw [HS.out];have h:=bytes_ne ht;clear ht
   go_enter Tryz.func68,Tryz.ntmps68
   go_wp2
   go_ret
   exact ⟨rfl,B0.out⟩
  subst hg
  have HS:Hid (smail g u l t g u' m t'=false):=by show _=_;simp [smail,hu]
  rw [HS.out];have h:(u != u')=true:=bne_iff_ne.2 hu;clear hu
  go_enter Tryz.func68,Tryz.ntmps68
  go_wp2
  go_ret
  exact ⟨rfl,B0.out⟩
 have HS:Hid (smail g u l t g' u' m t'=false):=by show _=_;simp [smail,hg]
 rw [HS.out];have h:(g != g')=true:=bne_iff_ne.2 hg;clear hg
 go_enter Tryz.func68,Tryz.ntmps68
 go_wp2
 go_ret
 exact ⟨rfl,B0.out⟩
theorem cloneRg_any (ao:Option Addr) (n cap:Nat) (l:List R3) (w:World) (hl:l.length=n) (hn:n≤1048576) (hr:Rs w ao l) (h0:ao=none→cap=0) :
  Calls Tryz.prog 188 #[.slice ao n cap] w fun e w'=>∃ v,e=.returned v∧Ow w' w.heap.size v l∧Below w.heap.size w w':=by
 have HR:=hid hr;have HL:=hid hl;have HN:=hid hn;clear hr hl hn
 cases ao with
 | none =>
  have hn0:n=0:=by
   by_cases h:0<n
   ·obtain ⟨_,_,h1,_⟩:=HR.out (by rw [HL.out];exact h)
    cases h1
   omega
  subst hn0;obtain rfl:=h0 rfl;have hle:l=[]:=List.eq_nil_of_length_eq_zero HL.out;subst hle;clear h0;have hnil:∀ W,(binOp .eql 76 (.slice none 0 0) (.slice none 0 0)).run Tryz.prog W=.ok (.bool true) W:=fun W=>Lib.run_eql_slice_nil_nil W 0 0 Tryz.underlying76
  go_enter Tryz.func188,Tryz.ntmps188
  go_wp2
  go_ret
  exact ⟨_,rfl,⟨rfl,.inl ⟨rfl,rfl⟩⟩,bre _⟩
 | some ad =>
  clear h0;obtain ⟨i0,hi,hz0,hz1,hz2⟩:=info_parts3 info_rg
  have HSRC:Hid (∀ j u,(fl l)[j]?=some u→(w.alloc (.cells #[] 126)).cell? (ad.add j)=some u):=by
   intro j u hu;have hj:j<(fl l).length:=(List.getElem?_eq_some_iff.1 hu).1;rw [fl_len] at hj;obtain ⟨k,o,h1,h2,h3⟩:=(HR.out.later (bpush (bre _) _)) (by omega);simp only [Option.some.injEq] at h1;subst h1;exact h3.all j u hu
  have hnil:∀ W,(binOp .eql 76 (.slice (some ad) n cap) (.slice none 0 0)).run Tryz.prog W=.ok (.bool false) W:=fun W=>Lib.run_eql_slice_some_nil W ad n cap Tryz.underlying76
  go_enter Tryz.func188,Tryz.ntmps188
  go_wp2_with (at_builtin;refine wpList_append_own _ rfl (.tmp 5) (.tmp 6) 76 rfl w.heap.size 126 i0 _ 3 24 Tryz.underlying76 hi hz0 hz1 hz2 rfl (by decide) _ 0 [] (by rfl) (own_empty w _ (Nat.le_refl _)) ad n cap (fl l) (by rfl) (by rw [fl_len,HL.out]) HSRC.out (fl_one l) (by have:=HN.out;unfold maxLen;omega) (by have:=HN.out;omega) (by simp) ?_;intro v1 w1 hown1 hg1 _)
  go_ret
  exact ⟨_,rfl,by simpa [Ow,HL.out] using hown1,(bpush (bre _) _).grown hg1 (by simp) (by intro k hk;simp [Value.ownBlock] at hk;omega)⟩
theorem own_far {W:World} {B j:Nat} {v:Value} {l:List R3} (h:Ow W B v l) (hj:j<B) (i:Nat) (x:Value):Ow (W.setCell ⟨j,i,none⟩ x) B v l :=
 World.ownsRow.kept h (wst (wre W (some j)) i x) (by
   cases hv:v.ownBlock with
   | none=>exact Or.inl rfl
   | some k=>right;have:=(World.ownsRow.lt h k hv).1;intro e;simp at e;omega)
theorem l05Copy_any (g u:Int) (ao:Option Addr) (n cap:Nat) (l:List R3) (t:ByteArray) (w:World) (hl:l.length=n) (hn:n≤1048576) (ht:t.size≤1048576) (hr:Rs w ao l) (h0:ao=none→cap=0) :
  Calls Tryz.prog 128 #[.agg #[.int .i64 g,.int .i64 u,.slice ao n cap,.string t]] w fun e w'=>∃ v,e=.returned (.agg #[.int .i64 g,.int .i64 u,v,.string t])∧Ow w' w.heap.size v l∧Below w.heap.size w w':=by
 obtain ⟨W0,hW0⟩:∃ W0,((w.alloc (.cells #[.int .i64 g,.int .i64 u,.slice ao n cap,.string t] 78)).alloc (.cells #[.int .i64 0,.int .i64 0,.slice none 0 0,.string ⟨#[]⟩] 78))=W0:=⟨_,rfl⟩;obtain ⟨a0,a1,b0⟩:=two_mails w _ _ _ _ _ _ _ _ _ _ W0 hW0;have A0:=hid a0;have A1:=hid a1;have B0:=hid b0;have HR:=hid (hr.later b0);have HL:=hid hl;have HN:=hid hn;have H0:=hid h0;have HT:=hid ht;have c0:=a0.cells;have f0:=a0.loose;clear a0 a1 b0 hr hl hn h0 ht
 go_enter Tryz.func128,Tryz.ntmps128
 go_wp2_with fail
 clear hW0;refine (l04Copy_any ao n cap l _ HL.out HN.out HR.out H0.out).mono ?_;rintro e w1 ⟨v,rfl,hown,hb⟩;obtain ⟨av,cv,hv,_⟩:=Ow.shape hown;rw [HL.out] at hv;subst hv;have X0:=hid (A0.out.later hb);have X1:=hid (A1.out.later hb);have d0:=X0.out.cells;have g0:=X0.out.loose;have d1:=X1.out.cells;have g1:=X1.out.loose;have HO:=hid hown;have B1:=hid (btr B0.out hb);clear c0 f0 hown hb
 go_wp2
 have k1:=((((X1.out.far (.slice av n cv) (j:=w.heap.size) (i:=2) (by omega)).s0 g).s1 u).s2 (.slice av n cv)).s3 t;have d1:=k1.cells;refine bodyPost_ret (v:=.agg #[.int .i64 g,.int .i64 u,.slice av n cv,.string t]) (by simp [results,Tryz.results128,go_sem,d1]) rfl ⟨_,rfl,?_,?_⟩
 ·have hs:=A1.out.lt
  exact own_base (own_far (own_far (own_far (own_far (own_far HO.out (by omega) 2 _) (by omega) 0 _) (by omega) 1 _) (by omega) 2 _) (by omega) 3 _) (by omega)
 exact bsk (bsk (bsk (bsk (bsk B1.out (by omega) _ _) (by omega) _ _) (by omega) _ _) (by omega) _ _) (by omega) _ _
theorem copyOf_any (g u:Int) (ao:Option Addr) (n cap:Nat) (l:List R3) (t:ByteArray) (w:World) (hl:l.length=n) (hn:n≤1048576) (ht:t.size≤1048576) (hr:Rs w ao l) (h0:ao=none→cap=0) :
  Calls Tryz.prog 168 #[.agg #[.int .i64 g,.int .i64 u,.slice ao n cap,.string t]] w fun e w'=>∃ v,e=.returned (.agg #[.int .i64 g,.int .i64 u,v,.string t])∧Ow w' w.heap.size v l∧Below w.heap.size w w':=by
 obtain ⟨W0,hW0⟩:∃ W0,((w.alloc (.cells #[.int .i64 g,.int .i64 u,.slice ao n cap,.string t] 78)).alloc (.cells #[.int .i64 0,.int .i64 0,.slice none 0 0,.string ⟨#[]⟩] 78))=W0:=⟨_,rfl⟩;obtain ⟨a0,a1,b0⟩:=two_mails w _ _ _ _ _ _ _ _ _ _ W0 hW0;have A0:=hid a0;have A1:=hid a1;have B0:=hid b0;have HR:=hid (hr.later b0);have HL:=hid hl;have HN:=hid hn;have H0:=hid h0;have HT:=hid ht;have c0:=a0.cells;have f0:=a0.loose;clear a0 a1 b0 hr hl hn h0 ht
 go_enter Tryz.func168,Tryz.ntmps168
 go_wp2_with fail
 clear hW0;refine (cloneRg_any ao n cap l _ HL.out HN.out HR.out H0.out).mono ?_;rintro e w1 ⟨v,rfl,hown,hb⟩;obtain ⟨av,cv,hv,_⟩:=Ow.shape hown;rw [HL.out] at hv;subst hv;have X0:=hid (A0.out.later hb);have X1:=hid (A1.out.later hb);have d0:=X0.out.cells;have g0:=X0.out.loose;have d1:=X1.out.cells;have g1:=X1.out.loose;have HO:=hid hown;have B1:=hid (btr B0.out hb);clear c0 f0 hown hb
 go_wp2_with fail
 have X0':=hid (X0.out.s2 (.slice av n cv));have X1':=hid (X1.out.far (.slice av n cv) (j:=w.heap.size) (i:=2) (by omega));have hs:=A1.out.lt;have HO':=hid (own_far HO.out (j:=w.heap.size) (by omega) 2 (.slice av n cv));have B1':=hid (bsk B1.out (Nat.le_refl _) 2 (.slice av n cv));refine (clone_any t _ HT.out).mono ?_;rintro e w2 ⟨rfl,hb⟩;have Y0:=hid (X0'.out.later hb);have Y1:=hid (X1'.out.later hb);have HO2:=hid (own_later HO'.out hb);have B2:=hid (btr B1'.out hb);clear d0 d1 g0 g1 hb;have d0:=Y0.out.cells;have g0:=Y0.out.loose;have d1:=Y1.out.cells;have g1:=Y1.out.loose
 go_wp2
 have k1:=((((Y1.out.far (.string t) (j:=w.heap.size) (i:=3) (by omega)).s0 g).s1 u).s2 (.slice av n cv)).s3 t;have d1:=k1.cells;refine bodyPost_ret (v:=.agg #[.int .i64 g,.int .i64 u,.slice av n cv,.string t]) (by simp [results,Tryz.results168,go_sem,d1]) rfl ⟨_,rfl,?_,?_⟩
 ·exact own_base (own_far (own_far (own_far (own_far (own_far HO2.out (by omega) 3 _) (by omega) 0 _) (by omega) 1 _) (by omega) 2 _) (by omega) 3 _) (by omega)
 exact bsk (bsk (bsk (bsk (bsk B2.out (by omega) _ _) (by omega) _ _) (by omega) _ _) (by omega) _ _) (by omega) _ _
theorem set4 {W:World} {k ty:Nat} {g u:Int} {f:Value} {t:ByteArray} (h:Mg W k ty g u f t) (g' u':Int) (f':Value) (t':ByteArray):Mg ((((W.setCell ⟨k,0,none⟩ (.int .i64 g')).setCell ⟨k,1,none⟩ (.int .i64 u')).setCell ⟨k,2,none⟩ f').setCell ⟨k,3,none⟩ (.string t')) k ty g' u' f' t' :=
 (((h.s0 g').s1 u').s2 f').s3 t'
theorem own4 {W:World} {B j:Nat} {v:Value} {l:List R3} (h:Ow W B v l) (hj:j<B) (g' u':Int) (f':Value) (t':ByteArray):Ow ((((W.setCell ⟨j,0,none⟩ (.int .i64 g')).setCell ⟨j,1,none⟩ (.int .i64 u')).setCell ⟨j,2,none⟩ f').setCell ⟨j,3,none⟩ (.string t')) B v l :=
 own_far (own_far (own_far (own_far h hj _ _) hj _ _) hj _ _) hj _ _
theorem bel4 {a w:World} (h:Below a.heap.size a w) {k:Nat} (hk:a.heap.size≤k) (g' u':Int) (f':Value) (t':ByteArray):Below a.heap.size a ((((w.setCell ⟨k,0,none⟩ (.int .i64 g')).setCell ⟨k,1,none⟩ (.int .i64 u')).setCell ⟨k,2,none⟩ f').setCell ⟨k,3,none⟩ (.string t')) :=
 bsk (bsk (bsk (bsk h hk _ _) hk _ _) hk _ _) hk _ _
theorem Mg.grown {W W':World} {k ty:Nat} {g u:Int} {f:Value} {t:ByteArray} {r:Option Nat} (h:Mg W k ty g u f t) (hg:W.grownBy W' r) (hk:some k≠r):Mg W' k ty g u f t:=(hg.block k h.lt hk).trans h
theorem own_kept {W W':World} {B:Nat} {v:Value} {l:List R3} {r:Option Nat} (h:Ow W B v l) (hg:W.grownBy W' r) (hne:∀ j,v.ownBlock=some j→r≠some j):Ow W' B v l :=
 World.ownsRow.kept h hg (by
   cases hv:v.ownBlock with
   | none=>exact Or.inl rfl
   | some j=>exact Or.inr (fun e=>hne j hv e.symm))
theorem below_grownR {B:Nat} {a w:World} {r:Option Nat} (h:a.grownBy w r) (hB:∀ j,r=some j→B≤j) (hs:B≤a.heap.size):Below B a w :=
 ⟨h.os,h.tape,h.output,h.size,fun k hk=>h.block k (by omega) (fun e=>by have:=hB k e.symm;omega)⟩
theorem grown_push {a w:World} {o:Obj} {r:Option Nat} (h:(a.alloc o).grownBy w r):a.grownBy w r:=wtr (World.grownBy_alloc a o r) h
theorem wst_new {a w:World} {r:Option Nat} (h:a.grownBy w r) {j:Nat} (hj:a.heap.size≤j) (i:Nat) (x:Value):a.grownBy (w.setCell ⟨j,i,none⟩ x) r :=
 ⟨h.os,h.tape,h.output,by simpa [World.setCell] using h.size,fun k hk hr=>(Below.heap_setCell w ⟨j,i,none⟩ x k (by show k≠j;omega)).trans (h.block k hk hr)⟩
theorem grown_below {a w:World} (h:Below a.heap.size a w) (r:Option Nat):a.grownBy w r:=⟨h.os,h.tape,h.output,h.size,fun k hk _=>h.block k hk⟩
end Go.Proofs.YtdkedgedkgabnaaGreatDoor
