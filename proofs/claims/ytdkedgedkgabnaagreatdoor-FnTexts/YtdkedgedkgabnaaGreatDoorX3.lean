/- Mc, Md. -/
import Derived.Test.YtdkedgedkgabnaaGreatDoorX2
namespace Go.Proofs.YtdkedgedkgabnaaGreatDoor
open Go.RowKit Go.ChangeMaps
set_option maxHeartbeats 16000000
set_option maxRecDepth 100000
theorem hid {p:Prop} (h:p):Hid p:=h
abbrev R3:=Int×Int×Int
def fl:List R3→List Value
 | []=>[]
 | p::l=>.int .i64 p.1::.int .i64 p.2.1::.int .i64 p.2.2::fl l
theorem fl_len (l:List R3):(fl l).length=l.length*3:=by
 induction l with
 | nil=>rfl
 | cons p l ih=>simp only [fl,List.length_cons,ih];omega
theorem fl_app (l m:List R3):fl (l++m)=fl l++fl m:=by
 induction l with
 | nil=>rfl
 | cons p l ih=>simp only [List.cons_append,fl,ih]
theorem fl_at (l:List R3) (i:Nat) (h:i<l.length) :
  (fl l)[i*3]?=some (.int .i64 l[i].1)∧(fl l)[i*3+1]?=some (.int .i64 l[i].2.1)∧(fl l)[i*3+2]?=some (.int .i64 l[i].2.2):=by
 induction l generalizing i with
 | nil=>simp at h
 | cons p l ih =>
  cases i with
  | zero=>exact ⟨rfl,rfl,rfl⟩
  | succ i =>
   have h':i<l.length:=by simpa using h
   have:=ih i h'
   have e:(i+1)*3=i*3+1+1+1:=by omega
   rw [e]
   simpa [fl] using this
theorem fl_set (l:List R3) (i:Nat) (p:R3) (h:i<l.length) :
  (((fl l).set (i*3) (.int .i64 p.1)).set (i*3+1) (.int .i64 p.2.1)).set (i*3+2) (.int .i64 p.2.2)=fl (l.set i p):=by
 induction l generalizing i with
 | nil=>simp at h
 | cons q l ih =>
  cases i with
  | zero=>rfl
  | succ i =>
   have h':i<l.length:=by simpa using h
   have:=ih i h'
   have e:(i+1)*3=i*3+1+1+1:=by omega
   rw [e]
   simpa [fl] using this
theorem fl_one (l:List R3):∀ u∈fl l,u.oneCell'=true:=by
 induction l with
 | nil=>intro u hu;cases hu
 | cons p l ih =>
  intro u hu;simp only [fl,List.mem_cons] at hu
  rcases hu with rfl | rfl | rfl | hu
  ·rfl
  ·rfl
  ·rfl
  exact ih u hu
def Row (W:World) (k o:Nat) (l:List R3):Prop :=
 ∀ i (h:i<l.length),W.cell? ⟨k,o+i*3,none⟩=some (.int .i64 l[i].1)∧W.cell? ⟨k,o+i*3+1,none⟩=some (.int .i64 l[i].2.1)∧W.cell? ⟨k,o+i*3+2,none⟩=some (.int .i64 l[i].2.2)
def Rs (W:World) (a:Option Addr) (l:List R3):Prop :=
 0<l.length→∃ k o,a=some ⟨k,o,none⟩∧k<W.heap.size∧Row W k o l
theorem Row.later {W W':World} {k o:Nat} {l:List R3} (h:Row W k o l) (hk:k<W.heap.size) (hb:Below W.heap.size W W'):Row W' k o l:=by
 intro i hi;obtain ⟨h1,h2,h3⟩:=h i hi;exact ⟨(hb.cell (p:=⟨k,o+i*3,none⟩) hk).trans h1,(hb.cell (p:=⟨k,o+i*3+1,none⟩) hk).trans h2,(hb.cell (p:=⟨k,o+i*3+2,none⟩) hk).trans h3⟩
theorem Rs.later {W W':World} {a:Option Addr} {l:List R3} (h:Rs W a l) (hb:Below W.heap.size W W'):Rs W' a l:=by
 intro hn;obtain ⟨k,o,h1,h2,h3⟩:=h hn;exact ⟨k,o,h1,Nat.lt_of_lt_of_le h2 hb.size,h3.later h2 hb⟩
abbrev Ow (W:World) (B:Nat) (v:Value) (l:List R3):Prop:=W.ownsRow B 126 3 v l.length (fl l)
theorem Ow.rs {W:World} {B n c:Nat} {a:Option Addr} {l:List R3} (h:Ow W B (.slice a n c) l):n=l.length∧Rs W a l:=by
 have hw:=h
 rcases h.2 with ⟨h1,h2⟩ | ⟨g,cap,cur,h1,h2,h3,h4,h5,h6,h7⟩
 ·simp only [Value.slice.injEq] at h1
  refine ⟨by omega,fun hn=>by omega⟩
 simp only [Value.slice.injEq] at h1;obtain ⟨rfl,rfl,rfl⟩:=h1;refine ⟨rfl,fun _=>⟨g,0,rfl,(Array.getElem?_eq_some_iff.1 h3).1,fun i hi=>?_⟩⟩;have e:=fl_at l i hi;simp only [Nat.zero_add];exact ⟨(hw.cellAt _ (by omega)).trans e.1,(hw.cellAt _ (by omega)).trans e.2.1,(hw.cellAt _ (by omega)).trans e.2.2⟩
theorem Ow.shape {W:World} {B:Nat} {v:Value} {l:List R3} (h:Ow W B v l):∃ a c,v=.slice a l.length c∧Rs W a l:=by
 rcases h.2 with ⟨h1,h2⟩ | ⟨g,cap,cur,h1,_⟩
 ·subst h1
  exact ⟨none,0,by rw [h2],(Ow.rs h).2⟩
 subst h1;exact ⟨_,_,rfl,(Ow.rs h).2⟩
theorem own_later {w w':World} {B e size n:Nat} {v:Value} {xs:List Value} (h:w.ownsRow B e size v n xs) (hb:Below w.heap.size w w'):w'.ownsRow B e size v n xs :=
 h.kept (row:=none) ⟨hb.os,hb.tape,hb.output,hb.size,fun k hk _=>hb.block k hk⟩ (by cases v.ownBlock <;> simp)
theorem own_base {w:World} {B B' e size n:Nat} {v:Value} {xs:List Value} (h:w.ownsRow B' e size v n xs) (hB:B≤B'):w.ownsRow B e size v n xs :=
 ⟨h.1,h.2.imp id (fun ⟨g,cap,cur,a,b,c⟩=>⟨g,cap,cur,a,Nat.le_trans hB b,c⟩)⟩
theorem Rs.at {W:World} {a:Option Addr} {l:List R3} (h:Rs W a l) {i:Nat} (hi:i<l.length):∃ k o,a=some ⟨k,o,none⟩∧k<W.heap.size ∧
  W.cell? ⟨k,o+i*3,none⟩=some (.int .i64 l[i].1)∧W.cell? ⟨k,o+i*3+1,none⟩=some (.int .i64 l[i].2.1)∧W.cell? ⟨k,o+i*3+2,none⟩=some (.int .i64 l[i].2.2):=by
 obtain ⟨k,o,h1,h2,h3⟩:=h (by omega);exact ⟨k,o,h1,h2,h3 i hi⟩
theorem Ow.stored {W:World} {B g n c:Nat} {l:List R3} (h:Ow W B (.slice (some ⟨g,0,none⟩) n c) l) (i:Nat) (hi:i<l.length) (p:R3) :
  Ow (((W.setCell ⟨g,i*3,none⟩ (.int .i64 p.1)).setCell ⟨g,i*3+1,none⟩ (.int .i64 p.2.1)).setCell ⟨g,i*3+2,none⟩ (.int .i64 p.2.2)) B (.slice (some ⟨g,0,none⟩) n c) (l.set i p):=by
 obtain rfl:=(Ow.rs h).1;have h1:=(World.ownsRow.stored h (i*3) (.int .i64 p.1)).1;have h2:=(World.ownsRow.stored h1 (i*3+1) (.int .i64 p.2.1)).1;have h3:=(World.ownsRow.stored h2 (i*3+2) (.int .i64 p.2.2)).1;rw [fl_set l i p hi] at h3
 simpa [Ow] using h3
theorem Ow.spot {W:World} {B g n c:Nat} {l:List R3} (h:Ow W B (.slice (some ⟨g,0,none⟩) n c) l) (i:Nat) (hi:i<l.length):∃ x y z,
  (W.cell? ⟨g,i*3,none⟩=some (.int .i64 x)∧W.cell? ⟨g,i*3+1,none⟩=some (.int .i64 y)∧W.cell? ⟨g,i*3+2,none⟩=some (.int .i64 z))∧W.frozen? ⟨g,i*3,none⟩=false∧W.frozen? ⟨g,i*3+1,none⟩=false∧W.frozen? ⟨g,i*3+2,none⟩=false:=by
 obtain ⟨rfl,hr⟩:=Ow.rs h;obtain ⟨k,o,e,_,c1,c2,c3⟩:=hr.at hi;simp only [Option.some.injEq,Addr.mk.injEq,and_true] at e;obtain ⟨rfl,rfl⟩:=e;simp only [Nat.zero_add] at c1 c2 c3;exact ⟨_,_,_,⟨c1,c2,c3⟩,World.ownsRow.frozenAt h _,World.ownsRow.frozenAt h _,World.ownsRow.frozenAt h _⟩
theorem Ow.cast {W:World} {B n c:Nat} {a:Option Addr} {l m:List R3} (h:Ow W B (.slice a n c) l) (e:l=m):Ow W B (.slice a n c) m:=e ▸ h
theorem info_rg:(Tryz.prog.info? 126).map (fun i=>(i.zero,i.size,i.bytes))=some (some (.agg #[.int .i64 0,.int .i64 0,.int .i64 0]),3,24):=by kernel_rfl
theorem info_parts3 {P:Program} {e:Nat} {z:Value} {s b:Nat} (h:(P.info? e).map (fun i=>(i.zero,i.size,i.bytes))=some (some z,s,b)):∃ i,P.info? e=some i∧i.zero=some z∧i.size=s∧i.bytes=b:=by
 cases hi:P.info? e with
 | none=>rw [hi] at h;cases h
 | some i =>
  rw [hi] at h;simp only [Option.map_some,Option.some.injEq,Prod.mk.injEq] at h;exact ⟨i,rfl,h.1,h.2.1,h.2.2⟩
theorem wtr {a b c:World} {r:Option Nat} (h:a.grownBy b r) (k:b.grownBy c r):a.grownBy c r :=
 ⟨k.os.trans h.os,k.tape.trans h.tape,k.output.trans h.output,Nat.le_trans h.size k.size,fun i hi hr=>(k.block i (Nat.lt_of_lt_of_le hi h.size) hr).trans (h.block i hi hr)⟩
theorem wre (a:World) (r:Option Nat):a.grownBy a r:=⟨rfl,rfl,rfl,Nat.le_refl _,fun _ _ _=>rfl⟩
theorem wst {a w:World} {g:Nat} (h:a.grownBy w (some g)) (i:Nat) (u:Value):a.grownBy (w.setCell ⟨g,i,none⟩ u) (some g) :=
 wtr h ⟨rfl,rfl,rfl,by simp [World.setCell],fun k _ hk=>Below.heap_setCell _ _ _ _ (fun e=>hk (by simpa using e))⟩
theorem Rs.grown {W W':World} {a:Option Addr} {l:List R3} {g:Nat} (h:Rs W a l) (hg:W.grownBy W' (some g)) (ha:∀ x,a=some x→x.block≠g):Rs W' a l:=by
 intro hn;obtain ⟨k,o,h1,h2,h3⟩:=h hn;have hk:k≠g:=ha _ h1;refine ⟨k,o,h1,Nat.lt_of_lt_of_le h2 hg.size,fun i hi=>?_⟩;obtain ⟨c1,c2,c3⟩:=h3 i hi;exact ⟨hg.cell (a:=⟨k,_,none⟩) c1 (by simpa using hk),hg.cell (a:=⟨k,_,none⟩) c2 (by simpa using hk),hg.cell (a:=⟨k,_,none⟩) c3 (by simpa using hk)⟩
theorem below_of_grown {B g:Nat} {a w:World} (h:a.grownBy w (some g)) (hB:B≤g) (hs:B≤a.heap.size):Below B a w :=
 ⟨h.os,h.tape,h.output,h.size,fun k hk=>h.block k (by omega) (by simp;omega)⟩
def okp (p:R3):Bool:=rgOk p.1 p.2.1 p.2.2&&decide (p.1≤1)
def flOk (l:List R3):Bool:=decide (l.length=3)&&l.all okp
theorem all_here (l:List R3) (i:Nat) (h:i<l.length) (ha:(l.take i).all okp=true) (hp:okp l[i]=true):(l.take (i+1)).all okp=true:=by
 rw [List.take_succ_eq_append_getElem h,List.all_append,ha];simp [hp]
theorem not_all (l:List R3) (i:Nat) (h:i<l.length) (hp:okp l[i]=false):flOk l=false:=by
 have:l.all okp=false:=by
  rw [List.all_eq_false];exact ⟨l[i],List.getElem_mem h,by rw [hp];simp⟩
 simp [flOk,this]
theorem all_end (l:List R3) (i:Nat) (h:i=l.length) (ha:(l.take i).all okp=true):flOk l=decide (l.length=3):=by
 subst h;rw [List.take_length] at ha
 simp [flOk,ha]
theorem specRegOk_l (v t b:Int):∃ p:Bool,Hid (p=rgOk v t b)∧Hid (∀ w,Calls Tryz.prog 145 #[.agg #[.int .i64 v,.int .i64 t,.int .i64 b]] w fun e w'=>e=.returned (.bool p)∧Below w.heap.size w w') :=
 ⟨_,rfl,fun w=>(specRegOk_any v t b w).mono fun _ _ h=>⟨h.1,h.2 ▸ bpush (bpush (bre _) _) _⟩⟩
theorem implRegOk_l (v t b:Int):∃ p:Bool,Hid (p=rgOk v t b)∧Hid (∀ w,Calls Tryz.prog 169 #[.agg #[.int .i64 v,.int .i64 t,.int .i64 b]] w fun e w'=>e=.returned (.bool p)∧Below w.heap.size w w') :=
 ⟨_,rfl,implRegOk_any v t b⟩
theorem specFlagsOk_any (ao:Option Addr) (n cap:Nat) (l:List R3) (w:World) (hl:l.length=n) (hn:n≤1048576) (hr:Rs w ao l) :
  Calls Tryz.prog 111 #[.slice ao n cap] w fun e w'=>e=.returned (.bool (flOk l))∧Below w.heap.size w w':=by
 have HR:=hid hr;have HL:=hid hl;clear hr hl
 go_enter Tryz.func111,Tryz.ntmps111
 go_wp2
 go_loopw [3] (fun iv wr=>∃ i:Nat,i≤n∧iv=.int .i64 (i:Int)∧(l.take i).all okp=true∧Below w.heap.size w wr) (fun iv _=>n - (intOf iv).toNat)
 case atStart=>exact ⟨0,Nat.zero_le _,rfl,by simp,bre _⟩
 case round =>
  obtain ⟨i,hi,rfl,hall,hb⟩:=hrel;have HAL:=hid hall;have HB:=hid hb;clear hall hb
  by_cases hlt:i<n
  ·have hil:i<l.length:=by rw [HL.out];exact hlt
   obtain ⟨k,o,rfl,hk,c⟩:=(HR.out.later HB.out).at hil;obtain ⟨p,hp⟩:∃ p,l[i]=p:=⟨_,rfl⟩;rw [hp] at c;obtain ⟨v,t,b⟩:=p;have HP:=hid hp;clear hp;obtain ⟨q,hq,cq⟩:=specRegOk_l v t b
   go_wp2_with fail
   refine (cq.out _).mono ?_;rintro e w1 ⟨rfl,hb1⟩;have d1:w1.cell? ⟨k,o+i*3,none⟩=some (.int .i64 v):=(hb1.cell (p:=⟨k,_,none⟩) hk).trans c.1;have HB1:Hid (Below w.heap.size w w1):=btr HB.out hb1;clear c hb1
   cases q
   ·have HF:Hid (flOk l=false):=not_all l i hil (by rw [HP.out];simp [okp,← hq.out])
    go_wp2
    go_ret
    exact ⟨by rw [HF.out];rfl,HB1.out⟩
   by_cases hv:v≤1
   ·have HT:Hid (okp l[i]=true):=by show _=_;rw [HP.out];simp [okp,← hq.out,hv]
    go_wp2
    go_roundw
    case rel=>exact ⟨i+1,by omega,by go_num,all_here l i hil HAL.out HT.out,HB1.out⟩
    case measure=>simp [intOf];omega
   have HF:Hid (flOk l=false):=not_all l i hil (by rw [HP.out];simp [okp,hv])
   go_wp2
   go_ret
   exact ⟨by rw [HF.out];rfl,HB1.out⟩
  have HE:Hid (flOk l=decide (l.length=3)):=all_end l i (by rw [HL.out];omega) HAL.out
  by_cases h3:n=3
  ·have HG:Hid (flOk l=true):=by show _=_;rw [HE.out,HL.out];simp [h3]
   subst h3
   go_wp2
   go_ret
   exact ⟨by rw [HG.out];rfl,HB.out⟩
  have HG:Hid (flOk l=false):=by show _=_;rw [HE.out,HL.out];simp [h3]
  have h4:((n:Int) == 3)=false:=by simp;omega
  go_wp2
  go_ret
  exact ⟨by rw [HG.out];rfl,HB.out⟩
theorem implFlagsOk_any (ao:Option Addr) (n cap:Nat) (l:List R3) (w:World) (hl:l.length=n) (hn:n≤1048576) (hr:Rs w ao l) :
  Calls Tryz.prog 141 #[.slice ao n cap] w fun e w'=>e=.returned (.bool (flOk l))∧Below w.heap.size w w':=by
 have HR:=hid hr;have HL:=hid hl;clear hr hl
 by_cases h3:n=3
 ·have h4:((n:Int) != 3)=false:=by subst h3;rfl
  have H3:=hid h3;clear h3
  go_enter Tryz.func141,Tryz.ntmps141
  go_wp2
  clear h4
  go_loopw [10] (fun iv wr=>∃ i:Nat,i≤n∧iv=.int .i64 (i:Int)∧(l.take i).all okp=true∧Below w.heap.size w wr) (fun iv _=>n - (intOf iv).toNat)
  case atStart=>exact ⟨0,Nat.zero_le _,rfl,by simp,bre _⟩
  case round =>
   obtain ⟨i,hi,rfl,hall,hb⟩:=hrel;have HAL:=hid hall;have HB:=hid hb;clear hall hb
   by_cases hlt:i<n
   ·have hil:i<l.length:=by rw [HL.out];exact hlt
    obtain ⟨k,o,rfl,hk,c⟩:=(HR.out.later HB.out).at hil;obtain ⟨p,hp⟩:∃ p,l[i]=p:=⟨_,rfl⟩;rw [hp] at c;obtain ⟨v,t,b⟩:=p;have HP:=hid hp;clear hp;obtain ⟨q,hq,cq⟩:=implRegOk_l v t b
    go_wp2_with fail
    refine (cq.out _).mono ?_;rintro e w1 ⟨rfl,hb1⟩;have d1:=((Rg.new wr 126 v t b).later hb1).cells;have HB1:Hid (Below w.heap.size w w1):=btr HB.out (btr (bpush (bre _) _) hb1);clear c hb1
    cases q
    ·have HF:Hid (flOk l=false):=not_all l i hil (by rw [HP.out];simp [okp,← hq.out])
     go_wp2
     go_ret
     exact ⟨by rw [HF.out];rfl,HB1.out⟩
    by_cases hv:v≤1
    ·have HT:Hid (okp l[i]=true):=by show _=_;rw [HP.out];simp [okp,← hq.out,hv]
     go_wp2
     go_roundw
     case rel=>exact ⟨i+1,by omega,by go_num,all_here l i hil HAL.out HT.out,HB1.out⟩
     case measure=>simp [intOf];omega
    have HF:Hid (flOk l=false):=not_all l i hil (by rw [HP.out];simp [okp,hv])
    go_wp2
    go_ret
    exact ⟨by rw [HF.out];rfl,HB1.out⟩
   have HE:Hid (flOk l=true):=(all_end l i (by rw [HL.out];omega) HAL.out).trans (by rw [HL.out];simp [H3.out])
   go_wp2
   go_ret
   exact ⟨by rw [HE.out];rfl,HB.out⟩
 have HG:Hid (flOk l=false):=by show _=_;simp [flOk,HL.out,h3]
 have h4:((n:Int) != 3)=true:=by simp;omega
 go_enter Tryz.func141,Tryz.ntmps141
 go_wp2
 go_ret
 exact ⟨by rw [HG.out];rfl,bre _⟩
def bit (n:Int) (i:Nat):Int:=n / 2 ^ i % 2
theorem tmod2 (v:Int) (h:v % 2=1):(v.tmod 2 != 0)=true:=by
 have:v.tmod 2≠0:=by
  intro e;have:=Int.dvd_of_tmod_eq_zero e;omega
 simpa using this
theorem tmod2' (v:Int) (h:v % 2=0):(v.tmod 2 != 0)=false:=by
 have:v.tmod 2=0:=Int.tmod_eq_zero_of_dvd (by omega)
 simpa using this
def fnew (n t b:Int):List R3:=[(bit n 0,t,b),(bit n 1,t,b),(bit n 2,t,b)]
theorem fnew_at (n t b:Int) (i:Nat) (h:i<(fnew n t b).length):(fnew n t b)[i]=(bit n i,t,b):=by
 have h3:i=0∨i=1∨i=2:=by simp [fnew] at h;omega
 rcases h3 with rfl | rfl | rfl <;> rfl
theorem fnew_take (n t b:Int) (i:Nat) (h:i<3):(fnew n t b).take (i+1)=(fnew n t b).take i++[(bit n i,t,b)]:=by
 rw [List.take_succ_eq_append_getElem (by simpa [fnew] using h),fnew_at]
theorem cells_new3 (w:World) (p:R3) (e:Nat):∀ j u,(fl [p])[j]?=some u→(w.alloc (.cells #[.int .i64 p.1,.int .i64 p.2.1,.int .i64 p.2.2] e)).cell? ((⟨w.heap.size,0,none⟩:Addr).add j)=some u:=by
 intro j u hu;have h:=heap_alloc_new w (.cells #[.int .i64 p.1,.int .i64 p.2.1,.int .i64 p.2.2] e)
 have hadd:(⟨w.heap.size,0,none⟩:Addr).add j=⟨w.heap.size,j,none⟩:=by unfold Addr.add;split <;> simp_all
 rw [hadd,cell_of_row _ _ _ _ _ _ h]
 simpa [fl] using hu
theorem wpList_append_rg (w:World) {ops:Array Oper} {rest:List Oper} {o:Oper} {a:Act} {Q:Exit→Act→World→Prop} (hgd:o.guard=none) (s x:Operand)
  (ho:o.op=.call { callee:=.builtin .append,args:=#[s,x],argTypes:=#[76,76] })
  (base:Nat) (v:Value) (l:List R3) (hs:a.eval s=v) (hown:Ow w base v l) (p q r:Int)
  (hx:a.eval x=.slice (some ⟨w.heap.size,0,none⟩) 1 1) (hlen:l.length≤1048576) (hbase:base≤w.heap.size)
  (h:∀ v' w',Ow w' base v' (l++[(p,q,r)])→Below base w w'→wpList Tryz.prog ops Q rest (a.put o.dst v') w') :
  wpList Tryz.prog ops Q (o::rest) a (w.alloc (.cells #[.int .i64 p,.int .i64 q,.int .i64 r] 126)):=by
 obtain ⟨i0,hi,hz0,hz1,hz2⟩:=info_parts3 info_rg;refine wpList_append_own _ hgd s x 76 ho base 126 i0 _ 3 24 Tryz.underlying76 hi hz0 hz1 hz2 rfl (by decide) v _ _ hs (hown.alloc _) ⟨w.heap.size,0,none⟩ 1 1 (fl [(p,q,r)]) hx rfl (cells_new3 w (p,q,r) 126) (fl_one _) (by unfold maxLen;omega) (by omega) (by simp;omega) ?_;intro v' w' hown' hg _
 have h1:Ow w' base v' (l++[(p,q,r)]):=by unfold Ow;rw [fl_app];simpa using hown'
 exact h v' w' h1 (((Below.refl base w).alloc hbase _).grown hg (by simp;omega) (fun k hk=>(hown.lt k hk).1))
theorem own_empty (W:World) (B:Nat) (hB:B≤W.heap.size):Ow (W.alloc (.cells #[] 126)) B (.slice (some ⟨W.heap.size,0,none⟩) 0 0) [] :=
 World.ownsRow_lit (base:=B) (e:=126) (size:=3) W #[] 0 hB (by unfold maxLen;omega) rfl
theorem bit_odd {n:Int} {i:Nat} {m:Int} (hm:n / 2 ^ i=m) (h:m % 2=1):bit n i=1:=by unfold bit;rw [hm,h]
theorem bit_even {n:Int} {i:Nat} {m:Int} (hm:n / 2 ^ i=m) (h:¬ m % 2=1):bit n i=0:=by unfold bit;rw [hm];omega
theorem specFlagsNew_any (n t b:Int) (w:World) :
  Calls Tryz.prog 163 #[.int .i64 n,.agg #[.int .i64 t,.int .i64 b]] w fun e w'=>∃ v,e=.returned v∧Ow w' w.heap.size v (fnew n t b)∧Below w.heap.size w w':=by
 obtain ⟨W0,hW0⟩:∃ W0,w.alloc (.cells #[.int .i64 t,.int .i64 b] 35)=W0:=⟨_,rfl⟩
 have A0:Hid (Sg W0 w.heap.size 35 t b):=by subst hW0;exact Sg.new w _ t b
 have B0:Hid (Below w.heap.size w W0):=by subst hW0;exact bpush (bre _) _
 have S0:Hid (W0.heap.size=w.heap.size+1):=by subst hW0;show _=_;simp
 go_enter Tryz.func163,Tryz.ntmps163
 go_wp2
 clear hW0
 go_loopw [5,6] (fun vv iv wr=>∃ (i:Nat),i≤3∧iv=.int .i64 (i:Int)∧Ow wr W0.heap.size vv ((fnew n t b).take i)∧Below W0.heap.size W0 wr) (fun _ iv _=>3 - (intOf iv).toNat)
 case atStart=>exact ⟨0,by omega,rfl,own_empty W0 _ (Nat.le_refl _),bpush (bre _) _⟩
 case round =>
  obtain ⟨i,hi,rfl,hown,hb⟩:=hrel;have HO:=hid hown;have HB:=hid hb;have hsz:=hb.size;have cs:=(A0.out.later hb).cells;clear hown hb
  by_cases hlt:i<3
  ·have HF:=hid (fnew_take n t b i hlt)
   have HLN:Hid (((fnew n t b).take i).length≤1048576):=by show _≤_;simp [fnew];omega
   have h3:i=0∨i=1∨i=2:=by omega
   rcases h3 with rfl | rfl | rfl
   ·by_cases hm:n % 2=1
    ·have h2:=tmod2 (n) hm
     have HV:=hid (bit_odd (n:=n) (i:=0) (m:=n) (by simp) hm);clear hm
     go_wp2_with (at_builtin;refine wpList_append_rg wr rfl (.tmp 19) (.tmp 23) rfl W0.heap.size _ _ (by rfl) HO.out _ _ _ rfl HLN.out hsz ?_;rotate_right;intro v1 w1 hown1 hb1)
     go_roundw
     case rel=>exact ⟨0+1,by omega,by go_num,by rw [HF.out,HV.out];exact hown1,HB.out.trans hb1⟩
     case measure=>simp [intOf]
    have h2:=tmod2' (n) (by omega);have HV:=hid (bit_even (n:=n) (i:=0) (m:=n) (by simp) hm);clear hm
    go_wp2_with (at_builtin;refine wpList_append_rg wr rfl (.tmp 19) (.tmp 23) rfl W0.heap.size _ _ (by rfl) HO.out _ _ _ rfl HLN.out hsz ?_;rotate_right;intro v1 w1 hown1 hb1)
    go_roundw
    case rel=>exact ⟨0+1,by omega,by go_num,by rw [HF.out,HV.out];exact hown1,HB.out.trans hb1⟩
    case measure=>simp [intOf]
   ·by_cases hm:(n / 2) % 2=1
    ·have h2:=tmod2 (n / 2) hm
     have HV:=hid (bit_odd (n:=n) (i:=1) (m:=n / 2) (by simp) hm);clear hm
     go_wp2_with (at_builtin;refine wpList_append_rg wr rfl (.tmp 19) (.tmp 23) rfl W0.heap.size _ _ (by rfl) HO.out _ _ _ rfl HLN.out hsz ?_;rotate_right;intro v1 w1 hown1 hb1)
     go_roundw
     case rel=>exact ⟨1+1,by omega,by go_num,by rw [HF.out,HV.out];exact hown1,HB.out.trans hb1⟩
     case measure=>simp [intOf]
    have h2:=tmod2' (n / 2) (by omega);have HV:=hid (bit_even (n:=n) (i:=1) (m:=n / 2) (by simp) hm);clear hm
    go_wp2_with (at_builtin;refine wpList_append_rg wr rfl (.tmp 19) (.tmp 23) rfl W0.heap.size _ _ (by rfl) HO.out _ _ _ rfl HLN.out hsz ?_;rotate_right;intro v1 w1 hown1 hb1)
    go_roundw
    case rel=>exact ⟨1+1,by omega,by go_num,by rw [HF.out,HV.out];exact hown1,HB.out.trans hb1⟩
    case measure=>simp [intOf]
   by_cases hm:(n / 4) % 2=1
   ·have h2:=tmod2 (n / 4) hm
    have HV:=hid (bit_odd (n:=n) (i:=2) (m:=n / 4) (by simp) hm);clear hm
    go_wp2_with (at_builtin;refine wpList_append_rg wr rfl (.tmp 19) (.tmp 23) rfl W0.heap.size _ _ (by rfl) HO.out _ _ _ rfl HLN.out hsz ?_;rotate_right;intro v1 w1 hown1 hb1)
    go_roundw
    case rel=>exact ⟨2+1,by omega,by go_num,by rw [HF.out,HV.out];exact hown1,HB.out.trans hb1⟩
    case measure=>simp [intOf]
   have h2:=tmod2' (n / 4) (by omega);have HV:=hid (bit_even (n:=n) (i:=2) (m:=n / 4) (by simp) hm);clear hm
   go_wp2_with (at_builtin;refine wpList_append_rg wr rfl (.tmp 19) (.tmp 23) rfl W0.heap.size _ _ (by rfl) HO.out _ _ _ rfl HLN.out hsz ?_;rotate_right;intro v1 w1 hown1 hb1)
   go_roundw
   case rel=>exact ⟨2+1,by omega,by go_num,by rw [HF.out,HV.out];exact hown1,HB.out.trans hb1⟩
   case measure=>simp [intOf]
  have HE:Hid (i=3):=by show _=_;omega
  go_wp2
  go_ret
  refine ⟨_,rfl,own_base (B':=W0.heap.size) ?_ (by rw [S0.out];omega),btr B0.out HB.out⟩;have h:=HO.out;rw [HE.out] at h;exact h
theorem step_append_rg {ops:Array Oper} {o:Oper} {a:Act} {w:World} {K:Act→World→Prop} {Q:Exit→Act→World→Prop} {E:Prop}
  (hg:o.guard=none) (s x:Operand) (hop:o.op=Op.call { callee:=Callee.builtin Builtin.append,args:=#[s,x],argTypes:=#[76,76] })
  (base:Nat) (v:Value) (l:List R3) (hs:a.eval s=v) (p q r:Int) (hown:Ow w base v l)
  (hx:a.eval x=.slice (some ⟨w.heap.size,0,none⟩) 1 1) (hlen:l.length≤1048576) (hbase:base≤w.heap.size)
  (hK:∀ v' w',Ow w' base v' (l++[(p,q,r)])→Below base w w'→K (a.put o.dst v') w') :
  if Region.wanted o (yielded ops a.tmps)=true then Oper.wp Tryz.prog o a (w.alloc (.cells #[.int .i64 p,.int .i64 q,.int .i64 r] 126)) K Q else E:=by
 have hw:Region.wanted o (yielded ops a.tmps)=true:=by simp [Region.wanted,hg]
 rw [if_pos hw];obtain ⟨i0,hi,hz0,hz1,hz2⟩:=info_parts3 info_rg;refine wp_append_own _ s x 76 hop base 126 i0 _ 3 24 Tryz.underlying76 hi hz0 hz1 hz2 rfl (by decide) v _ _ hs (hown.alloc _) ⟨w.heap.size,0,none⟩ 1 1 (fl [(p,q,r)]) hx rfl (cells_new3 w (p,q,r) 126) (fl_one _) (by unfold maxLen;omega) (by omega) (by simp;omega) ?_;intro v' w' hown' hgr _;refine hK v' w' ?_ (((Below.refl base w).alloc hbase _).grown hgr (by simp;omega) (fun k hk=>(hown.lt k hk).1));unfold Ow;rw [fl_app];simpa using hown'
theorem addr_add (k o j:Nat):(⟨k,o,none⟩:Addr).add j=⟨k,o+j,none⟩:=by unfold Addr.add;split <;> simp_all
theorem Row.all {W:World} {k o:Nat} {l:List R3} (h:Row W k o l):∀ j u,(fl l)[j]?=some u→W.cell? ((⟨k,o,none⟩:Addr).add j)=some u:=by
 intro j u hu;rw [addr_add];have hj:j<(fl l).length:=(List.getElem?_eq_some_iff.1 hu).1;rw [fl_len] at hj
 have hi:j / 3<l.length:=by omega
 have e:=fl_at l (j / 3) hi;have c:=h (j / 3) hi
 have h3:j % 3=0∨j % 3=1∨j % 3=2:=by omega
 rcases h3 with h3 | h3 | h3
 ·have ej:j=j / 3*3:=by omega
  rw [← ej] at e c;rw [← hu,e.1];exact c.1
 ·have ej:j=j / 3*3+1:=by omega
  rw [Nat.add_assoc,← ej] at c;rw [← ej] at e;rw [← hu,e.2.1];exact c.2.1
 have ej:j=j / 3*3+2:=by omega
 rw [Nat.add_assoc o _ 2,← ej] at c;rw [← ej] at e;rw [← hu,e.2.2];exact c.2.2
theorem l04Copy_any (ao:Option Addr) (n cap:Nat) (l:List R3) (w:World) (hl:l.length=n) (hn:n≤1048576) (hr:Rs w ao l) (h0:ao=none→cap=0) :
  Calls Tryz.prog 162 #[.slice ao n cap] w fun e w'=>∃ v,e=.returned v∧Ow w' w.heap.size v l∧Below w.heap.size w w':=by
 have HR:=hid hr;have HL:=hid hl;have HN:=hid hn;clear hr hl hn
 cases ao with
 | none =>
  have hn0:n=0:=by
   by_cases h:0<n
   ·obtain ⟨_,_,h1,_⟩:=HR.out (by rw [HL.out];exact h)
    cases h1
   omega
  subst hn0;obtain rfl:=h0 rfl;have hle:l=[]:=List.eq_nil_of_length_eq_zero HL.out;subst hle;clear h0
  go_enter Tryz.func162,Tryz.ntmps162
  go_wp2
  go_ret
  exact ⟨_,rfl,own_empty w _ (Nat.le_refl _),bpush (bre _) _⟩
 | some ad =>
  clear h0;obtain ⟨i0,hi,hz0,hz1,hz2⟩:=info_parts3 info_rg
  have HSRC:Hid (∀ j u,(fl l)[j]?=some u→(w.alloc (.cells #[] 126)).cell? (ad.add j)=some u):=by
   intro j u hu;have hj:j<(fl l).length:=(List.getElem?_eq_some_iff.1 hu).1;rw [fl_len] at hj;obtain ⟨k,o,h1,h2,h3⟩:=(HR.out.later (bpush (bre _) _)) (by omega);simp only [Option.some.injEq] at h1;subst h1;exact h3.all j u hu
  go_enter Tryz.func162,Tryz.ntmps162
  go_wp2_with (at_builtin;refine wpList_append_own _ rfl (.tmp 3) (.tmp 4) 76 rfl w.heap.size 126 i0 _ 3 24 Tryz.underlying76 hi hz0 hz1 hz2 rfl (by decide) _ 0 [] (by rfl) (own_empty w _ (Nat.le_refl _)) ad n cap (fl l) (by rfl) (by rw [fl_len,HL.out]) HSRC.out (fl_one l) (by have:=HN.out;unfold maxLen;omega) (by have:=HN.out;omega) (by simp) ?_;intro v1 w1 hown1 hg1 _)
  go_ret
  exact ⟨_,rfl,by simpa [Ow,HL.out] using hown1,(bpush (bre _) _).grown hg1 (by simp) (by intro k hk;simp [Value.ownBlock] at hk;omega)⟩
def pp (p:R3) (m t b:Int):R3:=if (rgOk m t b&&later t b p.2.1 p.2.2)=true then (m,t,b) else p
def sp (n t b:Int) (i:Nat) (p:R3):R3:=if bit n i=p.1 then p else pp p (bit n i) t b
def sl (l:List R3) (n t b:Int):List R3:=if (flOk l&&decide (0≤n∧n≤7))=true then l.mapIdx (sp n t b) else l
theorem sl_len (l:List R3) (n t b:Int):(sl l n t b).length=l.length:=by unfold sl;split <;> simp
def sfil (l:List R3) (n t b:Int) (i:Nat):List R3:=l.mapIdx fun j p=>if j<i then sp n t b j p else p
theorem sfil_len (l:List R3) (n t b:Int) (i:Nat):(sfil l n t b i).length=l.length:=by simp [sfil]
theorem sfil_zero (l:List R3) (n t b:Int):sfil l n t b 0=l:=by
 unfold sfil;apply List.ext_getElem
 ·simp
 intro j h1 h2;simp
theorem sfil_at (l:List R3) (n t b:Int) (i:Nat) (h:i<l.length) (h':i<(sfil l n t b i).length):(sfil l n t b i)[i]=l[i]:=by simp [sfil]
theorem sfil_set (l:List R3) (n t b:Int) (i:Nat) (h:i<l.length):(sfil l n t b i).set i (sp n t b i l[i])=sfil l n t b (i+1):=by
 unfold sfil;apply List.ext_getElem
 ·simp
 intro j h1 h2;simp only [List.getElem_set,List.getElem_mapIdx]
 by_cases hj:i=j
 ·subst hj;simp
 rw [if_neg hj]
 by_cases hji:j<i
 ·rw [if_pos hji,if_pos (by omega)]
 rw [if_neg hji,if_neg (by omega)]
theorem sfil_same (l:List R3) (n t b:Int) (i:Nat) (h:i<l.length) (hb:bit n i=l[i].1):sfil l n t b i=sfil l n t b (i+1):=by
 rw [← sfil_set l n t b i h]
 have e:sp n t b i l[i]=(sfil l n t b i)[i]'(by rw [sfil_len];exact h):=by
  rw [sfil_at l n t b i h];unfold sp;rw [if_pos hb]
 rw [e,List.set_getElem_self]
theorem sfil_all (l:List R3) (n t b:Int) (hok:flOk l=true) (hn:0≤n∧n≤7) (hl:l.length=3):sfil l n t b 3=sl l n t b:=by
 unfold sl sfil;rw [if_pos (by simp [hok,hn])]
 apply List.ext_getElem
 ·simp
 intro j h1 h2
 have:j<3:=by simpa [hl] using h2
 simp [this]
theorem sl_not (l:List R3) (n t b:Int) (h:¬ (flOk l=true∧0≤n∧n≤7)):sl l n t b=l:=by
 unfold sl;rw [if_neg];intro hc;apply h;simpa [Bool.and_eq_true,decide_eq_true_eq] using hc
theorem flOk_len {l:List R3} (h:flOk l=true):l.length=3:=by
 unfold flOk at h;simp at h;exact h.1
theorem Ow.here {W:World} {B g n c:Nat} {l:List R3} (h:Ow W B (.slice (some ⟨g,0,none⟩) n c) l) (i:Nat) (hi:i<l.length) (p:R3) (hp:l[i]=p) :
  (W.cell? ⟨g,i*3,none⟩=some (.int .i64 p.1)∧W.cell? ⟨g,i*3+1,none⟩=some (.int .i64 p.2.1)∧W.cell? ⟨g,i*3+2,none⟩=some (.int .i64 p.2.2))∧W.frozen? ⟨g,i*3,none⟩=false∧W.frozen? ⟨g,i*3+1,none⟩=false∧W.frozen? ⟨g,i*3+2,none⟩=false:=by
 subst hp;obtain ⟨rfl,hr⟩:=Ow.rs h;obtain ⟨k,o,e,_,c1,c2,c3⟩:=hr.at hi;simp only [Option.some.injEq,Addr.mk.injEq,and_true] at e;obtain ⟨rfl,rfl⟩:=e;simp only [Nat.zero_add] at c1 c2 c3;exact ⟨⟨c1,c2,c3⟩,World.ownsRow.frozenAt h _,World.ownsRow.frozenAt h _,World.ownsRow.frozenAt h _⟩
theorem Ow.solid {W:World} {B:Nat} {v:Value} {l:List R3} (h:Ow W B v l) (hl:0<l.length):∃ g c,v=.slice (some ⟨g,0,none⟩) l.length c∧B≤g:=by
 rcases h.2 with ⟨h1,h2⟩ | ⟨g,cap,cur,h1,h2,_⟩
 ·omega
 exact ⟨g,cap,h1,h2⟩
theorem bit_tmod {m:Int} {i:Nat} {q:Int} (hq:m / 2 ^ i=q) (h0:0≤q):q.tmod 2=bit m i:=by
 unfold bit;rw [hq,Int.tmod_eq_emod_of_nonneg h0]
def gd (p:R3):Prop:=(0≤p.1∧p.1<2)∧0≤p.2.1∧p.2.1<12∧1≤p.2.2∧p.2.2≤2
theorem Ow.keep {W W':World} {B cb:Nat} {v:Value} {l:List R3} (h:Ow W B v l) (hg:W.grownBy W' (some cb)) (hc:cb<B):Ow W' B v l :=
 World.ownsRow.kept h hg (by
   cases hv:v.ownBlock with
   | none=>exact Or.inl rfl
   | some k=>right;have:=(World.ownsRow.lt h k hv).1;intro e;simp at e;omega)
theorem Sg.same {W W':World} {k ty:Nat} {t b:Int} (h:Sg W k ty t b) (e:W'.heap[k]?=W.heap[k]?):Sg W' k ty t b:=e.trans h
theorem step_append_rg2 {ops:Array Oper} {o:Oper} {a:Act} {w:World} {K:Act→World→Prop} {Q:Exit→Act→World→Prop} {E:Prop}
  (hg:o.guard=none) (s x:Operand) (hop:o.op=Op.call { callee:=Callee.builtin Builtin.append,args:=#[s,x],argTypes:=#[76,76] })
  (base:Nat) (v:Value) (l:List R3) (hs:a.eval s=v) (p q r:Int) (hown:Ow w base v l)
  (hx:a.eval x=.slice (some ⟨w.heap.size,0,none⟩) 1 1) (hlen:l.length≤1048576) (hbase:base≤w.heap.size)
  (hK:∀ v' w',Ow w' base v' (l++[(p,q,r)])→Below base w w'→(∀ k,k<w.heap.size→some k≠v.ownBlock→w'.heap[k]?=w.heap[k]?)→K (a.put o.dst v') w') :
  if Region.wanted o (yielded ops a.tmps)=true then Oper.wp Tryz.prog o a (w.alloc (.cells #[.int .i64 p,.int .i64 q,.int .i64 r] 126)) K Q else E:=by
 have hw:Region.wanted o (yielded ops a.tmps)=true:=by simp [Region.wanted,hg]
 rw [if_pos hw];obtain ⟨i0,hi,hz0,hz1,hz2⟩:=info_parts3 info_rg;refine wp_append_own _ s x 76 hop base 126 i0 _ 3 24 Tryz.underlying76 hi hz0 hz1 hz2 rfl (by decide) v _ _ hs (hown.alloc _) ⟨w.heap.size,0,none⟩ 1 1 (fl [(p,q,r)]) hx rfl (cells_new3 w (p,q,r) 126) (fl_one _) (by unfold maxLen;omega) (by omega) (by simp;omega) ?_;intro v' w' hown' hgr _;refine hK v' w' ?_ (((Below.refl base w).alloc hbase _).grown hgr (by simp;omega) (fun k hk=>(hown.lt k hk).1)) (fun k hk hne=>(hgr.block k (by simp;omega) hne).trans (Below.heap_alloc w _ k hk));unfold Ow;rw [fl_app];simpa using hown'
theorem l04Flags_any (cb:Nat) (ao:Option Addr) (n cap:Nat) (w:World) (hn:n≤1048576) (hcur:Cur w cb ao n cap) (hcode:Code w cb ao n) :
  Calls Tryz.prog 166 #[.pointer (some ⟨cb,0,none⟩)] w fun e w'=>∃ (v:Value) (l:List R3),l.length=3∧(∀ p∈l,gd p)∧e=.returned v∧Ow w' w.heap.size v l∧Cur w' cb ao n cap∧w.grownBy w' (some cb):=by
 have hlt:=hcur.lt;have HC:=hid hcur;have HO:=hid hcode;clear hcur hcode
 go_enter Tryz.func166,Tryz.ntmps166
 go_wp2
 go_loopw [3,4] (fun vv iv wr=>∃ l:List R3,l.length≤3∧iv=.int .i64 (l.length:Int)∧(∀ p∈l,gd p)∧Ow wr w.heap.size vv l∧Cur wr cb ao n cap∧w.grownBy wr (some cb)) (fun _ iv _=>3 - (intOf iv).toNat)
 case atStart=>exact ⟨[],by decide,rfl,by simp,own_empty w _ (Nat.le_refl _),HC.out.alloc _,World.grownBy_alloc _ _ _⟩
 case round =>
  obtain ⟨l,hl3,rfl,hgd,hown,hcur,hg⟩:=hrel;have HGD:=hid hgd;have HOW:=hid hown;have HCU:=hid hcur;have HG:=hid hg;obtain ⟨i,hi⟩:∃ i,l.length=i:=⟨_,rfl⟩;have HI:=hid hi;rw [hi] at hl3 ⊢;clear hgd hown hcur hg hi
  by_cases h3:i<3
  ·go_wp2_with fail
   refine (l03Stamp_any cb ao n cap _ hn HCU.out (HO.out.later HG.out)).mono ?_;rintro e w1 ⟨t,b,htb,rfl,hc1,hg1⟩;have HTB:=hid htb;obtain ⟨W1,hW1⟩:∃ W1,w1.alloc (.cells #[.int .i64 t,.int .i64 b] 35)=W1:=⟨_,rfl⟩
   have A1:Hid (Sg W1 w1.heap.size 35 t b):=by subst hW1;exact Sg.new w1 _ t b
   have O1:Hid (Ow W1 w.heap.size u3 l):=by subst hW1;exact own_later (Ow.keep HOW.out hg1 hlt) (bpush (bre _) _)
   have C1:Hid (Cur W1 cb ao n cap):=by subst hW1;exact hc1.alloc _
   have G1:Hid (w.grownBy W1 (some cb)):=by subst hW1;exact gal (only_trans HG.out hg1) _
   have HOB:Hid (∀ k,u3.ownBlock=some k→k<w1.heap.size):=fun k hk=>(World.ownsRow.lt (Ow.keep HOW.out hg1 hlt) k hk).2;have HS1:Hid (w.heap.size≤w1.heap.size):=(only_trans HG.out hg1).size;clear hc1 hg1 htb
   go_wp2_with fail
   clear hW1
   go_region_held3 (fun W=>W.cell? ⟨w1.heap.size,0,none⟩=some (.int .i64 t)∧W.cell? ⟨w1.heap.size,1,none⟩=some (.int .i64 b))
    (first | exact A1.out.cells | exact SG2.out.cells | exact (SG2.out.later (bpush (bre _) _)).cells | exact SG3.out.cells)
    ((first
      | (go_at_call 38;refine (below4 cb ao n cap _ hn C1.out.drew (HO.out.later (gdr G1.out)) 2 (by decide) (by decide)).mono ?_;rintro e w2 ⟨x,hx,rfl,hc2,hg2⟩;have SG2:Hid (Sg w2 w1.heap.size 35 t b):=Sg.kept (W:=W1.drew) A1.out hg2 (by have:=HS1.out;omega);have O2:Hid (Ow w2 w.heap.size u3 l):=Ow.keep (W:=W1.drew) O1.out hg2 hlt;have HG2:Hid (w.grownBy w2 (some cb)):=only_trans (gdr G1.out) hg2;have HX:=hid hx)
      | (refine step_append_rg2 rfl (.tmp 13) (.tmp 18) rfl w.heap.size _ _ (by rfl) x t b O2.out (by rfl) (by rw [HI.out];omega) HG2.out.size ?_;intro v3 w3 hown3 hb3 hk3;have SG3:Hid (Sg w3 w1.heap.size 35 t b):=Sg.same SG2.out (hk3 _ SG2.out.lt (fun e=>by have:=HOB.out _ e.symm;omega)))))
   all_goals
    go_wp2
    go_roundw
    case rel=>exact ⟨l++[((x:Int),t,b)],by rw [List.length_append,HI.out];simp;omega,by rw [List.length_append,HI.out];go_num,by intro p hp;rw [List.mem_append] at hp;rcases hp with hp | hp;exact HGD.out p hp;simp at hp;subst hp;exact ⟨by have:=HX.out;omega,HTB.out⟩,hown3,hc2.later hb3 hlt,only_add HG2.out hb3⟩
    case measure=>simp [intOf];omega
  have HE:Hid (l.length=3):=by show _=_;rw [HI.out];omega
  go_wp2
  go_ret
  exact ⟨_,l,HE.out,HGD.out,rfl,HOW.out,HCU.out,HG.out⟩
theorem Ow.solid' {W:World} {B:Nat} {v:Value} {l:List R3} (h:Ow W B v l) (hl:0<l.length):∃ g c,v=.slice (some ⟨g,0,none⟩) l.length c∧B≤g∧l.length≤c∧(c:Int)≤9223372036854775807:=by
 rcases h.2 with ⟨h1,h2⟩ | ⟨g,cap,cur,h1,h2,h3,h4,h5,_⟩
 ·omega
 exact ⟨g,cap,h1,h2,h4,by unfold maxLen at h5;omega⟩
def Dl (W:World) (B:Nat) (v:Value) (l:List R3):Prop:=∃ (a:Option Addr) (c:Nat),v=.slice a l.length c∧l.length≤4∧l.length≤c∧(a=none→c=0)∧Rs W a l∧∀ x,a=some x→B≤x.block
theorem Dl.of {W:World} {B B':Nat} {v:Value} {l:List R3} (h:Ow W B v l) (h0:0<l.length) (h4:l.length≤4) (hB:B'≤B):Dl W B' v l:=by
 obtain ⟨g,c,rfl,hg,hc,_⟩:=h.solid' h0;exact ⟨_,c,rfl,h4,hc,(by intro e;cases e),(Ow.rs h).2,by intro x e;simp at e;subst e;exact Nat.le_trans hB hg⟩
theorem Dl.later {W W':World} {B:Nat} {v:Value} {l:List R3} (h:Dl W B v l) (hb:Below W.heap.size W W'):Dl W' B v l:=by
 obtain ⟨a,c,h1,h2,h3,h4,h5,h6⟩:=h;exact ⟨a,c,h1,h2,h3,h4,h5.later hb,h6⟩
theorem Dl.set {W:World} {B k o:Nat} {u v:Value} {l:List R3} (h:Dl W B v l) (hk:k<B):Dl (W.setCell ⟨k,o,none⟩ u) B v l:=by
 obtain ⟨a,c,h1,h2,h3,h4,h5,h6⟩:=h;exact ⟨a,c,h1,h2,h3,h4,h5.grown (only_set (cb:=k)) (fun x e=>by have:=h6 x e;omega),h6⟩
theorem Code.over {w W:World} {n:Nat} {ao:Option Addr} (h:Code w w.heap.size ao n) (hb:Below w.heap.size w W):Code W W.heap.size ao n:=by
 intro hn;obtain ⟨b,off,h1,h2,h3⟩:=h hn;refine ⟨b,off,h1,Nat.lt_of_lt_of_le h2 hb.size,fun j hj=>?_⟩;obtain ⟨z,hz,hc⟩:=h3 j hj;exact ⟨z,hz,(hb.cell (p:=⟨b,off+j,none⟩) h2).trans hc⟩
theorem Row.tail {W:World} {k o:Nat} {p:R3} {l:List R3} (h:Row W k o (p::l)):Row W k (o+3) l:=by
 intro i hi;have:=h (i+1) (by simpa using hi);rw [show o+(i+1)*3=o+3+i*3 by omega] at this
 simpa using this
theorem l04Any_any (cb:Nat) (ao:Option Addr) (n cap:Nat) (w:World) (hn:n≤1048576) (hcur:Cur w cb ao n cap) (hcode:Code w cb ao n) :
  Calls Tryz.prog 136 #[.pointer (some ⟨cb,0,none⟩)] w fun e w'=>∃ (v:Value) (l:List R3),e=.returned v∧Dl w' w.heap.size v l∧Cur w' cb ao n cap∧w.grownBy w' (some cb):=by
 have hlt:=hcur.lt;have HC:=hid hcur;have HO:=hid hcode;clear hcur hcode
 go_enter Tryz.func136,Tryz.ntmps136
 go_wp2_with fail
 refine (below4 cb ao n cap _ hn HC.out HO.out 10 (by decide) (by decide)).mono ?_;rintro e w1 ⟨x,hx,rfl,hc1,hg1⟩;have C1:=hid hc1;have G1:=hid hg1;clear hc1 hg1
 go_wp2_with fail
 refine (l04Flags_any cb ao n cap _ hn C1.out (HO.out.later G1.out)).mono ?_;rintro e w2 ⟨v,l,hl,_,rfl,hown,hc2,hg2⟩;have C2:=hid hc2;have G2:=hid (only_trans G1.out hg2);have O2:=hid hown;have hs1:=G1.out.size;have hs2:=hg2.size;have HL:=hid hl;clear hc2 hg2 hown hl;have D2:=hid (Dl.of O2.out (by rw [HL.out];decide) (by rw [HL.out];decide) hs1)
 by_cases h0:x=0
 ·subst h0
  go_wp2_with (at_builtin;refine wpList_append_rg w2 rfl (.tmp 12) (.tmp 14) rfl w1.heap.size _ _ (by rfl) O2.out _ _ _ rfl (by rw [HL.out];decide) hs2 ?_;rotate_right;intro v3 w3 hown3 hb3)
  go_ret
  exact ⟨_,_,rfl,Dl.of hown3 (by simp) (by rw [List.length_append,HL.out];decide) hs1,C2.out.later hb3 (by omega),only_add G2.out (hb3.mono hs1)⟩
 by_cases h1:x=1
 ·subst h1
  obtain ⟨g,c,hv,hg,hlc,hcm⟩:=O2.out.solid' (by rw [HL.out];decide);rw [HL.out] at hv hlc;subst hv
  have DT:Hid (∃ l':List R3,l'.length=2∧Dl w2 w.heap.size (.slice (some ⟨g,3,none⟩) 2 (c - 1)) l'):=by
   show ∃ l':List R3,_
   have hl:=HL.out
   match l,hl with
   | p::l',hl =>
    have hl2:l'.length=2:=by simpa using hl
    obtain ⟨k,o,he,hk,hrow⟩:=(Ow.rs O2.out).2 (by simp);simp only [Option.some.injEq,Addr.mk.injEq,and_true] at he;obtain ⟨rfl,rfl⟩:=he;exact ⟨l',hl2,_,c - 1,by rw [hl2],by omega,by omega,(by intro e;cases e),fun _=>⟨g,3,rfl,hk,by simpa using hrow.tail⟩,by intro x e;simp at e;subst e;exact Nat.le_trans hs1 hg⟩
  go_wp2
  go_ret
  obtain ⟨l',_,hd⟩:=DT.out;exact ⟨_,l',rfl,hd,C2.out,G2.out⟩
 by_cases h2:x=2
 ·subst h2
  obtain ⟨g,c,hv,hg,hlc,hcm⟩:=O2.out.solid' (by rw [HL.out];decide);rw [HL.out] at hv hlc;subst hv;have HGG:=hid hg;clear hg hlc hcm
  go_wp2_with fail
  refine (below4 cb ao n cap _ hn C2.out (HO.out.later G2.out) 3 (by decide) (by decide)).mono ?_;rintro e w3 ⟨y,hy,rfl,hc3,hg3⟩;have C3:=hid hc3;have G3:=hid (only_trans G2.out hg3);have O3:=hid (Ow.keep O2.out hg3 (by omega));clear hc3 hg3
  go_wp2_with fail
  refine (l03Reg_any cb ao n cap _ hn C3.out (HO.out.later G3.out)).mono ?_;rintro e w4 ⟨v4,t4,b4,rfl,hc4,hg4⟩;have C4:=hid hc4;have G4:=hid (only_trans G3.out hg4);have O4:=hid (Ow.keep O3.out hg4 (by omega));clear hc4 hg4
  have hyl:y<l.length:=by rw [HL.out];omega
  obtain ⟨x1,x2,x3,hc5,hf5⟩:=Ow.spot O4.out y hyl;have HST:=hid (Ow.stored O4.out y hyl (v4,t4,b4))
  have HNE:Hid (g≠cb):=by have:=HGG.out;show _≠_;omega
  have HWG:Hid (w.heap.size≤g):=Nat.le_trans hs1 HGG.out;clear hyl
  go_wp2
  go_ret
  exact ⟨_,_,rfl,Dl.of HST.out (by simp [HL.out]) (by simp [HL.out]) hs1,((C4.out.set HNE.out).set HNE.out).set HNE.out,gset (gset (gset G4.out HWG.out _ _) HWG.out _ _) HWG.out _ _⟩
 go_wp2
 go_ret
 exact ⟨_,l,rfl,D2.out,C2.out,G2.out⟩
theorem three {l:List R3} (h:l.length=3):∃ p q r,l=[p,q,r]:=by
 match l,h with
 | [p,q,r],_=>exact ⟨p,q,r,rfl⟩
theorem bdn {B:Nat} {w w1:World} (h:Below B w w1) (k:Nat):Below B w (w1.drewN k):=⟨h.os,h.tape,h.output,h.size,h.block⟩
end Go.Proofs.YtdkedgedkgabnaaGreatDoor
