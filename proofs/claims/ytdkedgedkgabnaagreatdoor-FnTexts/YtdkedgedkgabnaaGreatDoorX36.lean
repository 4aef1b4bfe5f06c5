/- Wt, Wu, Wv. -/
import Derived.Test.YtdkedgedkgabnaaGreatDoorX35
namespace Go.Proofs.YtdkedgedkgabnaaGreatDoor
open Go.RowKit Go.ChangeMaps
set_option maxHeartbeats 16000000
set_option maxRecDepth 100000
def cat:List ByteArray→ByteArray
 | []=>⟨#[]⟩
 | x::l=>x++cat l
theorem cat_app (l k:List ByteArray):cat (l++k)=cat l++cat k:=by
 induction l with
 | nil=>exact (ba_nil _).symm
 | cons x l ih=>simp only [List.cons_append,cat,ih];exact ByteArray.append_assoc.symm
theorem cat_one (x:ByteArray):cat [x]=x:=nil_ba x
theorem cat_next (l:List ByteArray) (i:Nat) (h:i<l.length):cat (l.take (i+1))=cat (l.take i)++l[i]:=by
 rw [take_next l i h,cat_app,cat_one]
theorem cat_part (l:List ByteArray) (i:Nat):(cat (l.take i)).size≤(cat l).size:=by
 have h:cat l=cat (l.take i)++cat (l.drop i):=by rw [← cat_app,List.take_append_drop]
 rw [h,ByteArray.size_append]
 omega
def OwR (W:World) (B:Nat) (v:Value) (l:List ByteArray):Prop:=W.ownsRow B 9 1 v l.length (l.map Value.string)
theorem OwR.shape {W:World} {B:Nat} {v:Value} {l:List ByteArray} (h:OwR W B v l) (h0:0<l.length):∃ g c,v=.slice (some ⟨g,0,none⟩) l.length c∧g<W.heap.size∧B≤g∧∀ i (hi:i<l.length),W.cell? ⟨g,i,none⟩=some (.string l[i]):=by
 have h':=h
 rcases h.2 with ⟨_,h1⟩ | ⟨g,c,cur,rfl,hb,hg,_⟩
 ·omega
 refine ⟨g,c,rfl,(Array.getElem?_eq_some_iff.1 hg).1,hb,fun i hi=>?_⟩;have h2:=World.ownsRow.cells h' (g:=g) rfl i (.string l[i]) (by rw [List.getElem?_map,List.getElem?_eq_getElem hi];rfl)
 cases i with
 | zero=>exact h2
 | succ i=>simpa [Addr.add] using h2
theorem make_by (n:Nat) (hn:n≤1048576) (W:World):(Instr.makeSlice 22 (.int .i64 (n:Int)) (.int .i64 (n:Int))).run Tryz.prog W=.ok (.slice (some ⟨W.heap.size,0,none⟩) n n) (W.alloc (.cells (List.replicate n (Value.int .u8 0)).toArray 5)):=by
 have hinfo:(Tryz.prog.info? 5).map (fun i=>(i.zero,i.size,i.bytes))=some (some (.int .u8 0),1,1):=by kernel_rfl
 obtain ⟨i0,hi,hz0,hz1,hz2⟩:=info_parts3 hinfo;have h:=run_make (P:=Tryz.prog) W 22 5 i0 (.int .u8 0) Tryz.underlying22 hi hz0 .i64 .i64 (n:Int) (n:Int) (by omega) (by omega) (by rw [hz2];omega) (by omega);rw [hz1,Int.toNat_natCast] at h
 have e:madeCells #[.int .u8 0] (n*1)=(List.replicate n (Value.int .u8 0)).toArray:=by
  apply Array.toList_inj.1
  apply List.ext_getElem?
  intro j
  by_cases hj:j<n <;> simp [madeCells,hj,Nat.mod_one]
 rw [show (Value.int IntKind.u8 0).cells=#[.int .u8 0] from rfl,e] at h;exact h
theorem cut_by (g n a e:Nat) (W:World) (h1:a<e) (h2:e≤n):(Instr.slice 22 (.slice (some ⟨g,0,none⟩) n n) (some (.int .i64 (a:Int))) (some (.int .i64 (e:Int))) (some (.int .i64 (e:Int)))).run Tryz.prog W=.ok (.slice (some ⟨g,a,none⟩) (e - a) (e - a)) W:=by
 have hz:∀ w,(Go.sizeOf 5).run Tryz.prog w=.ok 1 w:=fun w=>by kernel_rfl
 have ht':Tryz.prog.underlying 22=some (.slice (Tryz.prog.elem 22)):=by simp [Program.elem,Tryz.underlying22]
 have he:Tryz.prog.elem 22=5:=by simp [Program.elem,Tryz.underlying22]
 rw [run_slice_lhm W 22 _ _ _ ht' .i64 .i64 .i64 _ _ _ (by omega) (by omega) (by omega) (by omega),he,hz]
 have hne:¬ e=a:=by omega
 simp [Result.andThen,sliced,Addr.add,hne]
 intro h;exact h.symm
def zs (n:Nat):List Value:=List.replicate n (Value.int .u8 0)
def Half (W:World) (g:Nat) (x:ByteArray) (n:Nat):Prop:=W.heap[g]?=some (.cells (Lib.byteCells x.data.toList++zs (n - x.size)).toArray 5 (0,0))
theorem Half.lt {W:World} {g n:Nat} {x:ByteArray} (h:Half W g x n):g<W.heap.size:=(Array.getElem?_eq_some_iff.1 h).1
theorem half_more (W:World) (g n:Nat) (x p:ByteArray) (h:Half W g x n) (hn:x.size+p.size≤n):∃ W',(Builtin.copy_ #[22,9] 3 #[.slice (some ⟨g,x.size,none⟩) p.size p.size,.string p]).run Tryz.prog W=.ok (.int .i64 (p.size:Int)) W'∧Half W' g (x++p) n∧W.grownBy W' (some g):=by
 have hx:(Lib.byteCells x.data.toList).length=x.size:=by rw [Lib.byteCells_length];simp
 have h1:=Lib.run_copy_row_string (P:=Tryz.prog) W 22 9 3 5 g x.size p.size p.size p (Lib.byteCells x.data.toList++zs (n - x.size)).toArray 5 Tryz.underlying22 (by kernel_rfl) h (Nat.le_refl _) (by simp [zs,hx];omega);refine ⟨_,h1,?_,?_⟩
 ·have e:((Lib.byteCells x.data.toList++zs (n - x.size)).toArray.toList.take x.size++Lib.byteCells p.data.toList++(Lib.byteCells x.data.toList++zs (n - x.size)).toArray.toList.drop (x.size+p.size))=Lib.byteCells (x++p).data.toList++zs (n - (x++p).size):=by
   show (Lib.byteCells x.data.toList++zs (n - x.size)).take x.size++Lib.byteCells p.data.toList++(Lib.byteCells x.data.toList++zs (n - x.size)).drop (x.size+p.size)=_
   rw [List.take_append_of_le_length (Nat.le_of_eq hx.symm),List.take_of_length_le (Nat.le_of_eq hx),List.drop_append,List.drop_of_length_le (by rw [hx];omega),hx,ByteArray.data_append,Array.toList_append,ByteArray.size_append]
   have e2:Lib.byteCells (x.data.toList++p.data.toList)=Lib.byteCells x.data.toList++Lib.byteCells p.data.toList:=by simp [Lib.byteCells]
   have e3:(zs (n - x.size)).drop (x.size+p.size - x.size)=zs (n - (x.size+p.size)):=by
    unfold zs;rw [List.drop_replicate,show n - x.size - (x.size+p.size - x.size)=n - (x.size+p.size) by omega]
   rw [e2,e3,List.nil_append]
  have h2:=setRow_heap W g _ ((Lib.byteCells x.data.toList++zs (n - x.size)).toArray.toList.take x.size++Lib.byteCells p.data.toList++(Lib.byteCells x.data.toList++zs (n - x.size)).toArray.toList.drop (x.size+p.size)).toArray 5 (0,0) h;unfold Half;rw [h2,e]
 exact ⟨rfl,rfl,rfl,by simp [World.setRow],fun k hk hr=>setRow_other W g k _ (by simp at hr;omega)⟩
theorem half_cells {W:World} {g n:Nat} {x:ByteArray} (h:Half W g x n):∀ j (hj:j<x.data.toList.length),W.cell? ((⟨g,0,none⟩:Addr).add j)=some (.int .u8 (x.data.toList[j].toNat:Int)):=by
 intro j hj
 have e:(⟨g,0,none⟩:Addr).add j=⟨g,j,none⟩:=by cases j <;> simp [Addr.add]
 rw [e];rw [cell_of_row W g j _ _ _ h]
 have hj2:j<(Lib.byteCells x.data.toList).length:=by rw [Lib.byteCells_length];exact hj
 show ((Lib.byteCells x.data.toList++zs (n - x.size)).toArray)[j]?=_
 rw [List.getElem?_toArray,List.getElem?_append_left hj2,Lib.byteCells,List.getElem?_map,List.getElem?_eq_getElem hj]
 rfl
theorem moved_any (g n c:Nat) (l:List ByteArray) (w:World) (hl:l.length=n) (hn:n≤1048576) (hg:g<w.heap.size) (hc:∀ i (h:i<l.length),w.cell? ⟨g,i,none⟩=some (.string l[i])) (hne:∀ x∈l,0<x.size) (hz:(cat l).size≤1048576) :
  Calls Tryz.prog 34 #[.slice (some ⟨g,0,none⟩) n c] w fun e w'=>e=.returned (.string (cat l))∧Below w.heap.size w w':=by
 have HL:=hid hl;have HC:=hid hc;have HG:=hid hg;have HNE:=hid hne;have HZ:=hid hz;clear hl hc hg hne hz
 go_enter Tryz.func34,Tryz.ntmps34
 go_wp2
 go_loopw [3,13] (fun sv iv wr=>∃ (i m:Nat),i≤n∧iv=.int .i64 (i:Int)∧sv=.int .i64 (m:Int)∧Hid (m=(cat (l.take i)).size)∧m≤1048576∧w=wr) (fun _ iv _=>n - (intOf iv).toNat)
 case atStart=>exact ⟨0,0,Nat.zero_le _,rfl,rfl,rfl,by omega,rfl⟩
 case round =>
  obtain ⟨i,m,hi,rfl,rfl,HM,hm,rfl⟩:=hrel
  by_cases hlt:i<n
  ·have hil:i<l.length:=by rw [HL.out];exact hlt
   have hci:=HC.out i hil;have HT:=hid (cat_next l i hil);obtain ⟨p,hp⟩:∃ p,l[i]=p:=⟨_,rfl⟩;rw [hp] at hci HT
   have hps:m+p.size≤1048576:=by
    have h1:=cat_part l (i+1);rw [HT.out,ByteArray.size_append] at h1;have h2:=HM.out;have h3:=HZ.out
    omega
   clear hp
   go_wp2
   go_roundw
   case rel=>exact ⟨i+1,m+p.size,by omega,by go_num,by go_num,hid (by show _=_;rw [HT.out,ByteArray.size_append,← HM.out]),hps,trivial⟩
   case measure=>simp [intOf];omega
  have HE:Hid (l.take i=l):=List.take_of_length_le (by rw [HL.out];omega);have HMZ:Hid (m=(cat l).size):=hid (by rw [← HE.out];exact HM.out);have hmk:=make_by m hm w;have HH:Hid (Half (w.alloc (.cells (List.replicate m (Value.int .u8 0)).toArray 5)) w.heap.size ⟨#[]⟩ m):=hid (heap_alloc_new w _);obtain ⟨M,hM⟩:∃ M,(List.replicate m (Value.int .u8 0)).toArray=M:=⟨_,rfl⟩;rw [hM] at hmk HH;have HB:=hid (bpush (bre w) (.cells M 5));clear hM
  go_wp2
  clear hmk;obtain ⟨W1,hW1⟩:∃ W,w.alloc (.cells M 5)=W:=⟨_,rfl⟩;rw [hW1] at HH HB;rw [hW1];clear hW1
  go_loopw [7,26] (fun av iv wr=>∃ (i a:Nat),i≤n∧iv=.int .i64 (i:Int)∧av=.int .i64 (a:Int)∧Hid (a=(cat (l.take i)).size)∧a≤m∧Hid (Half wr w.heap.size (cat (l.take i)) m)∧Hid (Below w.heap.size w wr)) (fun _ iv _=>n - (intOf iv).toNat)
  case atStart=>exact ⟨0,0,Nat.zero_le _,rfl,rfl,rfl,Nat.zero_le _,HH,HB⟩
  case round =>
   obtain ⟨i2,a,hi2,rfl,rfl,HA,ha,HQ,HK⟩:=hrel
   by_cases hlt2:i2<n
   ·have hil:i2<l.length:=by rw [HL.out];exact hlt2
    have hci:=(HK.out.cell (p:=⟨g,i2,none⟩) HG.out).trans (HC.out i2 hil);have HT:=hid (cat_next l i2 hil);have hpos:=HNE.out l[i2] (List.getElem_mem hil);obtain ⟨p,hp⟩:∃ p,l[i2]=p:=⟨_,rfl⟩;rw [hp] at hci HT hpos
    have hps:a+p.size≤m:=by
     have h1:=cat_part l (i2+1);rw [HT.out,ByteArray.size_append] at h1;have h2:=HA.out;have h3:=HMZ.out
     omega
    obtain ⟨wn,hcp,hh,hgr⟩:=half_more wr w.heap.size m (cat (l.take i2)) p HQ.out (by rw [← HA.out];exact hps);rw [← HA.out] at hcp;have HH2:Hid (Half wn w.heap.size (cat (l.take (i2+1))) m):=hid (by rw [HT.out];exact hh);have HB2:Hid (Below w.heap.size w wn):=hid (HK.out.trans (below_grownR hgr (by intro j hj;simp at hj;omega) HK.out.size));have hct:=cut_by w.heap.size m a (a+p.size) wr (by omega) hps;rw [show a+p.size - a=p.size by omega,Int.natCast_add] at hct;clear hp hh hgr
    go_wp2
    go_roundw
    case rel=>exact ⟨i2+1,a+p.size,by omega,by go_num,by go_num,hid (by show _=_;rw [HT.out,ByteArray.size_append,← HA.out]),hps,HH2,HB2⟩
    case measure=>simp [intOf];omega
   have HE2:Hid (l.take i2=l):=List.take_of_length_le (by rw [HL.out];omega);have hcv:=run_convert_bytes_back (P:=Tryz.prog) wr 22 9 5 ⟨w.heap.size,0,none⟩ m (cat l).data.toList Tryz.underlying22 (by kernel_rfl) (by kernel_rfl) (half_cells (HE2.out ▸ HQ.out));rw [show (cat l).data.toList.length=m by rw [HMZ.out];simp] at hcv;have HSE:Hid ((⟨(cat l).data.toList.toArray⟩:ByteArray)=cat l):=hid (by cases cat l;simp);obtain ⟨z,hzz⟩:∃ z,(⟨(cat l).data.toList.toArray⟩:ByteArray)=z:=⟨_,rfl⟩;rw [hzz] at hcv HSE;clear hzz
   go_wp2
   go_ret
   exact ⟨by rw [HSE.out];rfl,HK.out⟩
theorem info_str:(Tryz.prog.info? 9).map (fun i=>(i.zero,i.size,i.bytes))=some (some (.string ⟨#[]⟩),1,16):=by kernel_rfl
theorem cell_one_s (w:World) (x:ByteArray) (e:Nat):∀ (j:Nat) (u:Value),([Value.string x]:List Value)[j]?=some u→(w.alloc (.cells #[.string x] e)).cell? ((⟨w.heap.size,0,none⟩:Addr).add j)=some u:=by
 intro j u hj
 match j,hj with
 | 0,hj =>
  simp only [List.getElem?_cons_zero,Option.some.injEq] at hj;subst hj;exact cell_of_row _ w.heap.size 0 _ _ _ (heap_alloc_new w _)
 | j+1,hj=>simp at hj
theorem ownR_one (w:World) (x:ByteArray):OwR (w.alloc (.cells #[.string x] 9)) w.heap.size (.slice (some ⟨w.heap.size,0,none⟩) 1 1) [x]:=by
 have h:=World.ownsRow_lit (base:=w.heap.size) (e:=9) (size:=1) w #[.string x] 1 (Nat.le_refl _) (by unfold maxLen;omega) rfl
 simpa [OwR] using h
theorem wpList_append_str (w:World) {ops:Array Oper} {rest:List Oper} {o:Oper} {a:Act} {Q:Exit→Act→World→Prop} (hgd:o.guard=none) (s x:Operand)
  (ho:o.op=.call { callee:=.builtin .append,args:=#[s,x],argTypes:=#[57,57] })
  (base:Nat) (v:Value) (l:List ByteArray) (hs:a.eval s=v) (hown:OwR w base v l) (n:ByteArray)
  (hx:a.eval x=.slice (some ⟨w.heap.size,0,none⟩) 1 1) (hlen:l.length≤2000000) (hbase:base≤w.heap.size)
  (h:∀ v' w',OwR w' base v' (l++[n])→Below base w w'→wpList Tryz.prog ops Q rest (a.put o.dst v') w') :
  wpList Tryz.prog ops Q (o::rest) a (w.alloc (.cells #[.string n] 9)):=by
 obtain ⟨i0,hi,hz0,hz1,hz2⟩:=info_parts3 info_str;refine wpList_append_own _ hgd s x 57 ho base 9 i0 (.string ⟨#[]⟩) 1 16 Tryz.underlying57 hi hz0 hz1 hz2 rfl (by decide) v _ _ hs (World.ownsRow.alloc hown _) ⟨w.heap.size,0,none⟩ 1 1 [.string n] hx rfl (cell_one_s _ _ _) (by intro u hu;simp at hu;subst hu;rfl) (by unfold maxLen;omega) (by omega) (by simp;omega) ?_;intro v' w' hown' hg _;refine h v' w' (by simpa [OwR] using hown') (((Below.refl base w).alloc hbase _).grown hg (by simp;omega) (fun k hk=>(World.ownsRow.lt hown k hk).1))
theorem wpList_append_strs (w:World) {ops:Array Oper} {rest:List Oper} {o:Oper} {a:Act} {Q:Exit→Act→World→Prop} (hgd:o.guard=none) (s x:Operand)
  (ho:o.op=.call { callee:=.builtin .append,args:=#[s,x],argTypes:=#[57,57] })
  (base:Nat) (v:Value) (l k:List ByteArray) (hs:a.eval s=v) (hown:OwR w base v l) (g n c:Nat) (hk:k.length=n)
  (hx:a.eval x=.slice (some ⟨g,0,none⟩) n c) (hc:∀ i (h:i<k.length),w.cell? ⟨g,i,none⟩=some (.string k[i])) (hlen:l.length≤2000000) (hlen2:n≤2000000) (hbase:base≤w.heap.size)
  (h:∀ v' w',OwR w' base v' (l++k)→Below base w w'→wpList Tryz.prog ops Q rest (a.put o.dst v') w') :
  wpList Tryz.prog ops Q (o::rest) a w:=by
 obtain ⟨i0,hi,hz0,hz1,hz2⟩:=info_parts3 info_str;refine wpList_append_own _ hgd s x 57 ho base 9 i0 (.string ⟨#[]⟩) 1 16 Tryz.underlying57 hi hz0 hz1 hz2 rfl (by decide) v _ _ hs hown ⟨g,0,none⟩ n c (k.map Value.string) hx (by rw [List.length_map,hk,Nat.mul_one]) ?_ (by intro u hu;simp only [List.mem_map] at hu;obtain ⟨y,_,rfl⟩:=hu;rfl) (by unfold maxLen;omega) (by omega) hbase ?_
 ·intro j u hj
  have e:(⟨g,0,none⟩:Addr).add j=⟨g,j,none⟩:=by cases j <;> simp [Addr.add]
  have hjl:j<k.length:=by have:=(List.getElem?_eq_some_iff.1 hj).1;simpa using this
  rw [e,hc j hjl];rw [List.getElem?_map,List.getElem?_eq_getElem hjl] at hj
  simpa using hj
 intro v' w' hown' hg _;refine h v' w' (by unfold OwR;rw [List.length_append,List.map_append,hk];exact hown') ((Below.refl base w).grown hg hbase (fun k hk=>(World.ownsRow.lt hown k hk).1))
theorem texts1 (x:Int) (hx:0≤x∧x≤1000000000):∃ s:ByteArray,Hid (s=vi x)∧Hid (∀ w k,k=w.heap.size→Calls Tryz.prog 29 #[.slice (some ⟨k,0,none⟩) 1 1] (w.alloc (.cells #[.int .i64 x] 3)) fun e w'=>e=.returned (.string s)∧Below w.heap.size w w'):=by
 refine ⟨vis [x],?_,fun w k hk=>?_⟩
 ·show _=_;simp only [vis,nil_ba]
 subst hk;refine (varTexts_any w.heap.size [x] 1 _ rfl (by omega) (by intro z hz;simp at hz;subst hz;assumption) (by simp) ?_).mono fun _ _ h=>⟨h.1,btr (bpush (bre _) _) h.2⟩;intro i hi;have h:=heap_alloc_new w (.cells #[.int .i64 x] 3)
 have h2:i=0:=by simp at hi;omega
 subst h2;exact cell_of_row _ _ 0 _ _ _ h
theorem ltInts_any (lo hi:Nat) (ao:Option Addr) (n c:Nat) (G:List Int) (w:World) (hl:G.length=n) (hn:n≤1048576) (hr:Is lo hi w ao G) (hg:∀ y∈G,0≤y∧y≤1000000000) :
  Calls Tryz.prog 31 #[.slice ao n c,.func (.func 32) #[] #[]] w fun e w'=>∃ v,e=.returned v∧OwR w' w.heap.size v (vi n::G.map vi)∧Below w.heap.size w w':=by
 have HL:=hid hl;have HR:=hid hr;have HG:=hid hg;obtain ⟨x1,e1,C1⟩:=texts1 (n:Int) (by omega);clear hl hr hg
 go_enter Tryz.func31,Tryz.ntmps31
 go_wp2_with fail
 refine (C1.out _ _ rfl).mono ?_;rintro e w1 ⟨rfl,hb1⟩;have O1:=hid (ownR_one w1 x1);have B1:=hid hb1;have B2:=hid (bpush hb1 (.cells #[.string x1] 9));have hs1:=hb1.size;clear hb1
 go_wp2
 obtain ⟨W1,hW1⟩:∃ W,w1.alloc (.cells #[.string x1] 9)=W:=⟨_,rfl⟩;have O2:Hid (OwR W1 w.heap.size (.slice (some ⟨w1.heap.size,0,none⟩) 1 1) [x1]):=hid (by rw [← hW1];exact own_base O1.out hs1);rw [hW1] at B2;rw [hW1];clear hW1 O1 B1 hs1
 go_loopw [5,17] (fun ov iv wr=>∃ (i:Nat),i≤n∧iv=.int .i64 (i:Int)∧OwR wr w.heap.size ov (vi n::(G.take i).map vi)∧Below w.heap.size w wr) (fun _ iv _=>n - (intOf iv).toNat)
 case atStart=>exact ⟨0,Nat.zero_le _,rfl,by rw [← e1.out];exact O2.out,B2.out⟩
 case round =>
  obtain ⟨i,hi2,rfl,ho,hb⟩:=hrel;have XO:=hid ho;have XB:=hid hb;clear ho hb O2 B2
  by_cases hlt:i<n
  ·have hil:i<G.length:=by rw [HL.out];exact hlt
   have HT:Hid (G.take (i+1)=G.take i++[G[i]]):=take_next G i hil;obtain ⟨k,o,rfl,hk,d⟩:=(HR.out.later XB.out).at hil;have hy:=HG.out G[i] (List.getElem_mem hil);obtain ⟨y,hye⟩:∃ y,G[i]=y:=⟨_,rfl⟩;rw [hye] at d hy HT;obtain ⟨z,hz,hzs,cz⟩:=var_i y hy.1 hy.2;have HLN:Hid ((vi n::(G.take i).map vi).length≤2000000):=hid (by show _≤_;simp only [List.length_cons,List.length_map,List.length_take];omega);clear hye hy hzs
   go_wp2_with fail
   refine (cz.out _).mono ?_;rintro e w3 ⟨rfl,hb3⟩;have O3:Hid (OwR w3 w.heap.size u5 (vi n::(G.take i).map vi)):=hid (own_later XO.out hb3);have B3:=hid (btr XB.out hb3);have hs3:=B3.out.size;clear d hb3
   go_wp2_with (at_builtin;refine wpList_append_str w3 rfl (.tmp 27) (.tmp 29) rfl w.heap.size _ _ (by rfl) O3.out z rfl HLN.out hs3 ?_;intro v4 w4 hown4 hb4;have HO4:=hid hown4;have HB4:=hid hb4;clear hown4 hb4)
   go_roundw
   case rel=>exact ⟨i+1,by omega,by go_num,by rw [HT.out,List.map_append,← List.cons_append];rw [hz.out] at HO4;exact HO4.out,B3.out.trans HB4.out⟩
   case measure=>simp [intOf];omega
  have HE:Hid (G.take i=G):=List.take_of_length_le (by rw [HL.out];omega);have XO2:Hid (OwR wr w.heap.size u5 (vi n::G.map vi)):=hid (by have h:=XO.out;rw [HE.out] at h;exact h)
  go_wp2
  go_ret
  exact ⟨_,rfl,XO2.out,XB.out⟩
def mt4 (m:M4):ByteArray:=mtx m.1 m.2.1 m.2.2.1 m.2.2.2
theorem ltMails_any (lo hi:Nat) (ao:Option Addr) (n c:Nat) (L:List M4) (w:World) (hl:L.length=n) (hn:n≤1048576) (hsm:Sm L) (hr:Ms lo hi w ao L) (hg:∀ m∈L,mlOk m.1 m.2.1 m.2.2.1 m.2.2.2=true) :
  Calls Tryz.prog 48 #[.slice ao n c,.func (.func 49) #[] #[]] w fun e w'=>∃ v,e=.returned v∧OwR w' w.heap.size v (vi n::L.map mt4)∧Below w.heap.size w w':=by
 have HL:=hid hl;have HR:=hid hr;have HG:=hid hg;have HSM:=hid hsm;obtain ⟨x1,e1,C1⟩:=texts1 (n:Int) (by omega);clear hl hr hg hsm
 go_enter Tryz.func48,Tryz.ntmps48
 go_wp2_with fail
 refine (C1.out _ _ rfl).mono ?_;rintro e w1 ⟨rfl,hb1⟩;have O1:=hid (ownR_one w1 x1);have B1:=hid hb1;have B2:=hid (bpush hb1 (.cells #[.string x1] 9));have hs1:=hb1.size;clear hb1
 go_wp2
 obtain ⟨W1,hW1⟩:∃ W,w1.alloc (.cells #[.string x1] 9)=W:=⟨_,rfl⟩;have O2:Hid (OwR W1 w.heap.size (.slice (some ⟨w1.heap.size,0,none⟩) 1 1) [x1]):=hid (by rw [← hW1];exact own_base O1.out hs1);rw [hW1] at B2;rw [hW1];clear hW1 O1 B1 hs1
 go_loopw [5,17] (fun ov iv wr=>∃ (i:Nat),i≤n∧iv=.int .i64 (i:Int)∧OwR wr w.heap.size ov (vi n::(L.take i).map mt4)∧Below w.heap.size w wr) (fun _ iv _=>n - (intOf iv).toNat)
 case atStart=>exact ⟨0,Nat.zero_le _,rfl,by rw [← e1.out];exact O2.out,B2.out⟩
 case round =>
  obtain ⟨i,hi2,rfl,ho,hb⟩:=hrel;have XO:=hid ho;have XB:=hid hb;clear ho hb O2 B2
  by_cases hlt:i<n
  ·have hil:i<L.length:=by rw [HL.out];exact hlt
   have HT:Hid (L.take (i+1)=L.take i++[L[i]]):=take_next L i hil;obtain ⟨k,o,fa,fc,rfl,hk,d,hrs,_⟩:=(HR.out.later XB.out).at hil;have hok:=HG.out L[i] (List.getElem_mem hil);have hfl:=(HSM.out L[i] (List.getElem_mem hil)).1;have HLN:Hid ((vi n::(L.take i).map mt4).length≤2000000):=hid (by show _≤_;simp only [List.length_cons,List.length_map,List.length_take];omega);obtain ⟨q,hq⟩:∃ q,L[i]=q:=⟨_,rfl⟩;obtain ⟨g2,u,fl,tx⟩:=q;rw [hq] at d hrs hok hfl HT;dsimp only at d hrs hok hfl;have hb9:=bpush (bre wr) (.cells #[.int .i64 g2,.int .i64 u,.slice fa fl.length fc,.string tx] 78);have MM:=hid (Mg.new wr 78 g2 u (.slice fa fl.length fc) tx);have CT:=implMailText_any g2 u fa fl.length fc fl tx (wr.alloc (.cells #[.int .i64 g2,.int .i64 u,.slice fa fl.length fc,.string tx] 78)) rfl hfl (hrs.later hb9)
   have hE2:mtR g2 u fl tx=.tuple #[.string (mtx g2 u fl tx),.bool true]:=by unfold mtR;rw [hok];rfl
   rw [hE2] at CT;obtain ⟨xm,hxm⟩:∃ x,mtx g2 u fl tx=x:=⟨_,rfl⟩;have HXM:Hid (xm=mt4 (g2,u,fl,tx)):=hid hxm.symm;obtain ⟨lf,hlf⟩:∃ n,fl.length=n:=⟨_,rfl⟩;rw [hxm] at CT;rw [hlf] at CT d hb9 MM;have HCT:=hid CT;have XO9:Hid (OwR (wr.alloc (.cells #[.int .i64 g2,.int .i64 u,.slice fa lf fc,.string tx] 78)) w.heap.size u5 (vi n::(L.take i).map mt4)):=hid (own_later XO.out hb9);have XB9:=hid (btr XB.out hb9);have dm:=MM.out.cells;clear hq hok hfl hE2 hxm hlf CT hrs hb9
   go_wp2_with fail
   refine HCT.out.mono ?_;rintro e w3 ⟨rfl,hb3⟩;have O3:Hid (OwR w3 w.heap.size u5 (vi n::(L.take i).map mt4)):=hid (own_later XO9.out hb3);have B3:=hid (btr XB9.out hb3);have hs3:=B3.out.size;clear d dm hb3 HCT XO9 XB9
   go_wp2_with (at_builtin;refine wpList_append_str w3 rfl (.tmp 27) (.tmp 29) rfl w.heap.size _ _ (by rfl) O3.out xm rfl HLN.out hs3 ?_;intro v4 w4 hown4 hb4;have HO4:=hid hown4;have HB4:=hid hb4;clear hown4 hb4)
   go_roundw
   case rel=>exact ⟨i+1,by omega,by go_num,by rw [HT.out,List.map_append,← List.cons_append];rw [HXM.out] at HO4;exact HO4.out,B3.out.trans HB4.out⟩
   case measure=>simp [intOf];omega
  have HE:Hid (L.take i=L):=List.take_of_length_le (by rw [HL.out];omega);have XO2:Hid (OwR wr w.heap.size u5 (vi n::L.map mt4)):=hid (by have h:=XO.out;rw [HE.out] at h;exact h)
  go_wp2
  go_ret
  exact ⟨_,rfl,XO2.out,XB.out⟩
end Go.Proofs.YtdkedgedkgabnaaGreatDoor
