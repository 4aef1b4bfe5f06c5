/- Itz. -/
import Derived.Test.YtkbecgcbheopnaaGreatdMi
import Derived.RangeFuncNested
import Derived.RangeFuncBound
import Derived.RangeFuncCalls
import Derived.RangeFuncLeaves
import Derived.RangeFuncBox
import Derived.Shelf.Abstract
import Derived.OwnWalkIn
import Derived.TacticsInMore
import Derived.LoopNIn
import Derived.LoopIn
import Derived.Maps.AppendAt
namespace Go.Proofs.YtkbecgcbheopnaaGreat
open Go.RowKit Go.Shelf Go.ChangeMaps
attribute [local go_sem] Oper.semAt_some
def lfE (E:List En) (seen:Array Nat):List En:=E.filter (fun e=>!seen.contains e.2)
theorem lf_of (E:List En) (seen:Array Nat):leftOf (E.map ent).toArray seen=((lfE E seen).map ent).toArray:=by
 unfold leftOf lfE
 apply Array.ext'
 simp only [Array.toList_filter,List.filter_map]
 rfl
theorem lf_push (E:List En) (seen:Array Nat) (b:Nat):lfE E (seen.push b)=(lfE E seen).filter (fun e=>!(e.2 == b)):=by
 unfold lfE
 rw [List.filter_filter]
 apply List.filter_congr
 intro e _
 simp only [Array.contains_push,Bool.not_or]
 rw [Bool.and_comm]
theorem perm_out (R:List En) (e:En) (he:e∈R) (hn:(R.map (·.2)).Nodup):(e::R.filter (fun x=>!(x.2 == e.2))).Perm R:=by
 induction R with
 | nil=>cases he
 | cons x R ih =>
  rw [List.map_cons,List.nodup_cons] at hn
  rcases List.mem_cons.1 he with rfl | he
  ·have hf:(e::R).filter (fun x=>!(x.2 == e.2))=R:=by
    rw [List.filter_cons_of_neg (by simp),List.filter_eq_self.2]
    intro y hy
    have:y.2≠e.2:=fun h=>hn.1 (h ▸ List.mem_map.2 ⟨y,hy,rfl⟩)
    simpa using this
   rw [hf]
  ·have hx:x.2≠e.2:=fun h=>hn.1 (h ▸ List.mem_map.2 ⟨e,he,rfl⟩)
   rw [List.filter_cons_of_pos (by simpa using hx)]
   exact (List.Perm.swap x e _).trans ((ih he hn.2).cons x)
theorem lf_nodup {E:List En} (h:(E.map (·.2)).Nodup) (seen:Array Nat):((lfE E seen).map (·.2)).Nodup :=
 List.Nodup.sublist (List.Sublist.map _ List.filter_sublist) h
def lft (b r:Nat) (W:World):Nat :=
 match W.heap[r]?,W.heap[b]? with
 | some (.mapIter _ _ seen _),some (.map es _)=>(leftOf es seen).size
 | _,_=>0
theorem run_range_shelf {W:World} {b c:Nat} {es:Array MapEntry} (hb:W.heap[b]?=some (.map es c)):(Instr.range 114 (.map (some b))).run Tryz.prog W=.ok (.pointer (some ⟨W.heap.size,0,none⟩)) (W.alloc (.mapIter (some b) c #[] c)):=by
 simp only [Instr.range,Sem.run_bind,run_underlying Tryz.underlying114,Result.andThen,MapKept.run_getObj_map hb]
 rfl
set_option maxRecDepth 100000 in
set_option maxHeartbeats 4000000 in
theorem values1_in (F:Fence) (n:Nat) (h7:F.fn 189) (hro:F.round=none) (hn:1≤n) (l Bm b c:Nat) (E:List En) (J Jx:List { e:En // e∈E }→World→Prop)
  (hY:∀ pre x W,J pre W→pre.length<E.length→YieldAt F (n - 1) Tryz.prog l #[zv x.1.1] W fun e W' =>
    (e=.returned (.bool true)∧J (pre++[x]) W'∧KeepsWalks W W')∨(e=.returned (.bool false)∧Jx (pre++[x]) W'))
  (W:World) (hJ:AbidesFrom W.heap.size J) (hm:W.cell? ⟨Bm,0,none⟩=some (.map (some b))) (hlies:W.heap[b]?=some (.map (E.map ent).toArray c)) (hold:∀ e∈E,e.2<c) (hbir:(E.map (·.2)).Nodup) (hsl:∀ e∈E,∃ a k c,e.1.2.2.1=.slice a k c) (h0:J [] W) :
  CallsIn F n Tryz.prog 189 #[.func (.yield l) #[] #[],.pointer (some ⟨Bm,0,none⟩)] W fun e W'=>(∃ v,e=.returned v) ∧
   ((∃ xs,((xs.map (·.1)).Perm E)∧J xs W')∨(∃ pre,True∧Jx pre W')):=by
 have hrg:=run_range_shelf hlies
 have hblt:b<W.heap.size:=(Array.getElem?_eq_some_iff.1 hlies).1
 have HLI:=hid hlies
 have HY:=hid hY
 have HJ:=hid hJ
 have H0:=hid h0
 have HBL:=hid hblt
 have HOL:Hid (∀ x∈((E.map ent).toArray).toList,x.born<c):=by
  intro x hx
  rw [List.toList_toArray] at hx
  obtain ⟨e,he,rfl⟩:=List.mem_map.1 hx
  exact hold e he
 have HBN:Hid ((((E.map ent).toArray).toList.map (·.born)).Nodup):=by
  show List.Nodup _
  rw [List.toList_toArray,List.map_map]
  exact hbir
 have HBI:=hid hbir
 have HSL:=hid hsl
 clear hlies hY hJ h0 hblt hold hbir hsl
 refine callsIn_of_wp Tryz.func189 rfl h7 ?_ hro
 simp only [Tryz.ntmps189,List.size_toArray,List.length_cons,List.length_nil,Nat.reduceAdd,Nat.reduceSub,Array.replicate_succ,Array.replicate_zero,List.push_toArray,List.append_toArray,List.nil_append,List.cons_append]
 gi_wp2
 clear hrg hm
 gi_loopw [7] (fun _ wr=>∃ (seen:Array Nat) (ps:List { e:En // e∈E }),wr.heap[W.heap.size]?=some (.mapIter (some b) c seen c)∧wr.heap[b]?=some (.map (E.map ent).toArray c)∧(ps.map (·.1)++lfE E seen).Perm E∧J ps wr)
  (fun _ wr=>lft b W.heap.size wr)
 case atStart =>
  refine ⟨#[],[],heap_alloc_new W _,(Below.heap_alloc _ _ b HBL.out).trans HLI.out,?_,HJ.out [] W _ none H0.out (World.grownBy_alloc W _ none) (fun r e=>by cases e)⟩
  have:lfE E #[]=E:=by unfold lfE;rw [List.filter_eq_self.2];simp
  rw [this];exact List.Perm.refl _
 case round =>
  obtain ⟨seen,ps,hr,hb,hP,hJs⟩:=hrel
  have HR:=hid hr
  have HB:=hid hb
  have HP:=hid hP
  have HJS:=hid hJs
  have hnx:=run_next_at (P:=Tryz.prog) wr 0 W.heap.size b c c seen (E.map ent).toArray c hr hb HOL.out (Nat.le_refl _)
  rw [lf_of] at hnx
  clear hr hb hP hJs
  rcases hnx with ⟨hz,hrun⟩ | ⟨e,he,w1,hw1,hrun⟩
  ·have HZ:Hid (lfE E seen=[]):=by
    show _=_
    rw [List.size_toArray,List.length_map] at hz
    exact List.eq_nil_of_length_eq_zero hz
   clear hz
   gi_wp2
   go_end0
   refine ⟨⟨_,rfl⟩,.inl ⟨ps,?_,HJS.out⟩⟩
   have:=HP.out
   rwa [HZ.out,List.append_nil] at this
  ·rw [List.toList_toArray] at he
   obtain ⟨x,hx,rfl⟩:=List.mem_map.1 he
   have hxE:x∈E:=(List.mem_filter.1 hx).1
   have HXL:=hid hx
   have hwh:w1.heap=wr.heap:=by rcases hw1 with rfl | rfl <;> rfl
   have hr1:w1.heap[W.heap.size]?=some (.mapIter (some b) c seen c):=by rw [hwh];exact HR.out
   obtain ⟨W2,hW2⟩:∃ W2,setBlock w1 W.heap.size (.mapIter (some b) c (seen.push x.2) c)=W2:=⟨_,rfl⟩
   have hg2:wr.grownBy W2 (some W.heap.size):=by
    subst hW2
    have hlt:=(Array.getElem?_eq_some_iff.1 hr1).1
    refine ⟨?_,?_,?_,?_,?_⟩
    ·rcases hw1 with rfl | rfl <;> rfl
    ·rcases hw1 with rfl | rfl <;> rfl
    ·rcases hw1 with rfl | rfl <;> rfl
    ·simp [setBlock,hwh]
    ·intro k hk hne
     simp only [setBlock,hwh]
     exact Array.getElem?_setIfInBounds_ne (fun e=>hne (by rw [e]))
   have hr2:W2.heap[W.heap.size]?=some (.mapIter (some b) c (seen.push x.2) c):=by
    subst hW2
    simp only [setBlock]
    rw [Array.getElem?_setIfInBounds_self_of_lt (Array.getElem?_eq_some_iff.1 hr1).1]
   have hb2:W2.heap[b]?=some (.map (E.map ent).toArray c):=(hg2.block b (Array.getElem?_eq_some_iff.1 HB.out).1 (fun e=>by have:=HBL.out;simp at e;omega)).trans HB.out
   have hen:=run_entry_at (P:=Tryz.prog) W2 W.heap.size b c seen (E.map ent).toArray c (ent x) hr2 hb2 (by rw [List.toList_toArray];exact List.mem_map.2 ⟨x,hxE,rfl⟩) HBN.out
   have hJ2:J ps W2:=HJ.out ps wr W2 (some W.heap.size) HJS.out hg2 (fun r e=>by cases e;exact ⟨Nat.le_refl _,_,HR.out,rfl⟩)
   have hrun':(Instr.next (.pointer (some ⟨W.heap.size,0,none⟩)) false 0).run Tryz.prog wr=.ok (.tuple #[.bool true,.int .i64 x.1.1,zv x.1]) W2:=by rw [← hW2];exact hrun
   have hen':(Instr.entry (.pointer (some ⟨W.heap.size,0,none⟩))).run Tryz.prog W2=.ok (.tuple #[.int .i64 x.1.1,zv x.1]) W2:=hen
   have HR2:=hid hr2
   have HB2:=hid hb2
   have HJ2:=hid hJ2
   have HXE:=hid hxE
   clear hrun hen hr2 hb2 hJ2 hg2 hW2 hr1 hwh hw1 hx he w1
   obtain ⟨⟨g,u,f,fl,t⟩,bo⟩:=x
   obtain ⟨fa,fn',fc,hf⟩:=HSL.out _ HXE.out
   dsimp only at hf
   subst hf
   obtain ⟨W3,hW3⟩:∃ W3,W2.alloc (.cells #[.int .i64 g,.int .i64 u,.slice fa fn' fc,.string t] 86)=W3:=⟨_,rfl⟩
   have A3:Mg W3 W2.heap.size 86 g u (.slice fa fn' fc) t:=by subst hW3;exact Mg.new _ _ _ _ _ _
   have b3:Below W2.heap.size W2 W3:=by subst hW3;exact bpush (bre _) _
   have hJ3:J ps W3:=by subst hW3;exact HJ.out ps W2 _ none HJ2.out (World.grownBy_alloc W2 _ none) (fun r e=>by cases e)
   have hlen:ps.length<E.length:=by
    have h1:=HP.out.length_eq
    have h2:0<(lfE E seen).length:=List.length_pos_of_mem HXL.out
    rw [List.length_append,List.length_map] at h1
    omega
   obtain ⟨fn,tmps,assign,body,hy,hR⟩:=HY.out ps ⟨((g,u,.slice fa fn' fc,fl,t),bo),HXE.out⟩ W3 hJ3 hlen
   have c3:=A3.cells
   have hy':=hy
   dsimp only [zv] at hy hrun' hen'
   have HR3:=hid ((b3.block W.heap.size (Array.getElem?_eq_some_iff.1 HR2.out).1).trans HR2.out)
   have HB3:=hid ((b3.block b (Array.getElem?_eq_some_iff.1 HB2.out).1).trans HB2.out)
   have HRR:=hid hR
   clear A3 b3 hJ3 hlen hy' hR
   gi_wp2
   refine HRR.out.mono ?_
   rintro e W4 (⟨rfl,hJ4,hk4⟩ | ⟨rfl,hJx4⟩)
   ·have hr4:=hk4.same _ _ HR3.out rfl
    have hb4:=hk4.same _ _ HB3.out rfl
    have hP4:((ps++[(⟨((g,u,.slice fa fn' fc,fl,t),bo),HXE.out⟩:{ e:En // e∈E })]).map (fun e=>e.1)++lfE E (seen.push bo)).Perm E:=by
     rw [lf_push,List.map_append,List.append_assoc]
     refine List.Perm.trans (List.Perm.append_left _ ?_) HP.out
     exact perm_out _ _ HXL.out (lf_nodup HBI.out seen)
    have HM:Hid (lft b W.heap.size W4<lft b W.heap.size wr):=by
     show _<_
     unfold lft
     rw [hr4,hb4,HR.out,HB.out]
     dsimp only
     rw [lf_of,lf_of,List.size_toArray,List.size_toArray,List.length_map,List.length_map,lf_push]
     have:=(perm_out _ _ HXL.out (lf_nodup HBI.out seen)).length_eq
     rw [List.length_cons] at this
     exact Nat.lt_of_succ_le (Nat.le_of_eq this)
    have HR4:=hid hr4
    have HB4:=hid hb4
    have HP4:=hid hP4
    have HJ4:=hid hJ4
    clear hr4 hb4 hP4 hk4 hJ4 c3 hrun' hen' hy
    gi_wp2
    go_roundw
    case rel=>exact ⟨_,_,HR4.out,HB4.out,HP4.out,HJ4.out⟩
    case measure=>exact HM.out
   ·have HX4:=hid hJx4
    clear hJx4 c3 hrun' hen' hy
    gi_wp2
    refine bodyPost_ret (results_none rfl _ _ _) rfl ?_
    exact ⟨⟨_,rfl⟩,.inr ⟨_,trivial,HX4.out⟩⟩
attribute [local go_sem] Oper.semAt_some
theorem values_stops (F:Fence) (n:Nat) (h7:F.fn 189) (hro:F.round=none) (hn:1≤n) (Bm b c B:Nat) (E:List En) (w:World) (hBm:Bm<w.heap.size) (hm:w.cell? ⟨Bm,0,none⟩=some (.map (some b))) (hmp:OwMp w B b E c) :
  SeqStopsK F n Tryz.prog 189 #[.pointer (some ⟨Bm,0,none⟩)] (fun x:{ e:En // e∈E }=>#[zv x.1.1]) KeepsWalks (fun xs=>(xs.map (·.1)).Perm E) (fun _=>True) E.length w:=fun l J Jx W hW hJ _ hY h0=>by
 have hsl:∀ e∈E,∃ a k c,e.1.2.2.1=.slice a k c:=fun e he=>by
  obtain ⟨a,c,h,_⟩:=Ow.shape (hmp.each e he)
  exact ⟨a,_,c,h⟩
 exact values1_in F n h7 hro hn l Bm b c E J Jx hY W hJ ((hW.cell (p:=⟨Bm,0,none⟩) hBm).trans hm) (hmp.later hW).lies hmp.old hmp.births hsl h0
theorem zc_one {Z:List Z5} (h:∀ z∈Z,∃ a k c,z.2.2.1=.slice a k c):∀ u∈zc Z,u.oneCell'=true:=by
 induction Z with
 | nil=>intro u hu;cases hu
 | cons z Z ih =>
  intro u hu
  simp only [zc,List.mem_cons] at hu
  rcases hu with rfl | rfl | rfl | rfl | hu
  ·rfl
  ·rfl
  ·obtain ⟨a,k,c,hz⟩:=h z (by simp)
   rw [hz];rfl
  ·rfl
  ·exact ih (fun y hy=>h y (by simp [hy])) u hu
theorem cells_new4 (w:World) (z:Z5) (e:Nat):∀ j u,(zc [z])[j]?=some u→(w.alloc (.cells #[.int .i64 z.1,.int .i64 z.2.1,z.2.2.1,.string z.2.2.2.2] e)).cell? ((⟨w.heap.size,0,none⟩:Addr).add j)=some u:=by
 intro j u hu
 have h:=heap_alloc_new w (.cells #[.int .i64 z.1,.int .i64 z.2.1,z.2.2.1,.string z.2.2.2.2] e)
 rw [addr_add,Nat.zero_add,cell_of_row _ _ _ _ _ _ h]
 simpa [zc] using hu
def got {E:List En} (pre:List { e:En // e∈E }):List Z5:=pre.map (fun x=>x.1.1)
theorem got_snoc {E:List En} (pre:List { e:En // e∈E }) (x:{ e:En // e∈E }):got (pre++[x])=got pre++[x.1.1]:=by simp [got]
theorem got_len {E:List En} (pre:List { e:En // e∈E }):(got pre).length=pre.length:=by simp [got]
set_option maxRecDepth 100000 in
set_option maxHeartbeats 4000000 in
theorem appendSeq_any (Bm b c B:Nat) (E:List En) (w:World) (hN:E.length≤1048576) (hBm:Bm<w.heap.size) (hm:w.cell? ⟨Bm,0,none⟩=some (.map (some b))) (hmp:OwMp w B b E c) :
  Calls Tryz.prog 195 #[.slice none 0 0,.func (.func 189) #[] #[.pointer (some ⟨Bm,0,none⟩)]] w fun e w' =>
   ∃ v xs,e=.returned v∧(xs.map (fun x:{ e:En // e∈E }=>x.1)).Perm E∧w'.ownsRow w.heap.size 86 4 v (got xs).length (zc (got xs))∧Below w.heap.size w w':=by
 have hsl:∀ e∈E,∃ a k c,e.1.2.2.1=.slice a k c:=fun e he=>by
  obtain ⟨a,c,h,_⟩:=Ow.shape (hmp.each e he)
  exact ⟨a,_,c,h⟩
 have HSL:=hid hsl
 have HMP:=hid hmp
 have HM:=hid hm
 have HBM:=hid hBm
 clear hsl hmp hm hBm
 refine (callsIn_wide (n:=3)).1 ?_
 refine callsIn_of_wp_marks Tryz.func195 rfl trivial ?_ rfl
 simp only [Tryz.ntmps195,List.size_toArray,List.length_cons,List.length_nil,Nat.reduceAdd,Nat.reduceSub,Array.replicate_succ,Array.replicate_zero,List.push_toArray,List.append_toArray,List.nil_append,List.cons_append]
 gi_wp2
 obtain ⟨W0,hW0⟩:∃ W0,w.alloc (.cells #[.slice none 0 0] 35)=W0:=⟨_,rfl⟩
 rw [hW0]
 have hbox:Boxed W0 w.heap.size 35 (.slice none 0 0):=by subst hW0;exact Boxed.new w _ _
 have b0:Below w.heap.size w W0:=by subst hW0;exact bpush (bre _) _
 have s0:W0.heap.size=w.heap.size+1:=by subst hW0;simp
 obtain ⟨i0,hi,hz0,hz1,hz2⟩:=info_parts3 info_ml
 refine wpIn_rangeFunc_ownH (F:=Fence.wide) (n:=3) rfl (by decide) (gf:=189) (lb:=#[.pointer (some ⟨Bm,0,none⟩)]) rfl trivial (enters_of Tryz.func189 (by kernel_rfl) rfl)
  (values_stops Fence.wide (3 - 1) trivial rfl (by decide) Bm b c B E W0 (Nat.lt_of_lt_of_le HBM.out b0.size) ((b0.cell (p:=⟨Bm,0,none⟩) HBM.out).trans HM.out) (HMP.out.later b0)) walksK_t walksK_b (Below.refl _ _) (fun _=>rfl)
  (fun pre W=>(∃ v,Boxed W w.heap.size 35 v∧W.ownsRow w.heap.size 86 4 v (got pre).length (zc (got pre))∧True)∧Below w.heap.size w W) (fun _ _ _=>False)
  (OwnFrom.and (Own.from (holdsRow_own w.heap.size w.heap.size 35 86 4 (fun pre=>(got pre).length) (fun pre=>zc (got pre)) (fun _ _=>True)) _) (ownFrom_below (Nat.le_refl _) (by omega)))
  (fun _ _ _ _ _ hs _ _=>hs)
  ⟨⟨_,hbox,World.ownsRow_nil _ _ _ _,trivial⟩,b0⟩
  (fun x a' W=>∃ Bx,w.heap.size<Bx∧Mg W Bx 86 x.1.1.1 x.1.1.2.1 x.1.1.2.2.1 x.1.1.2.2.2.2∧a'={ tmps:=#[.slice none 0 0,.func (.func 189) #[] #[.pointer (some ⟨Bm,0,none⟩)],.pointer (some ⟨w.heap.size,0,none⟩),undef,.slice none 0 0,.pointer (some ⟨Bx,0,none⟩),.func (.func 189) #[] #[.pointer (some ⟨Bm,0,none⟩)],zv x.1.1,undef,undef,undef,undef,undef],defers:=[] })
  ?hax ?assign ?body ?done ?stop
 case hax =>
  rintro x a' _ X Y row ⟨Bx,h1,h2,h3⟩ hg hr
  refine ⟨Bx,h1,(hg.block Bx h2.lt (fun e=>?_)).trans h2,h3⟩
  obtain ⟨_,o,ho,hc⟩:=hr Bx e.symm
  have h2':X.heap[Bx]?=_:=h2
  rw [h2'] at ho
  cases ho
  cases hc
 case assign =>
  rintro l pre ⟨⟨⟨g,u,f,fl,t⟩,bo⟩,hx⟩ W K ⟨⟨v,hv,hrow,_⟩,hB⟩ hK
  obtain ⟨fa,fn',fc,hf⟩:=HSL.out _ hx
  dsimp only at hf
  subst hf
  have hlt:=hv.lt
  have HV:=hid hv
  have HRW:=hid hrow
  have HB:=hid hB
  clear hv hrow hB
  dsimp only [zv]
  gi_wp2
  exact hK _ _ ((KeepsOthers.alloc _ _).from _) (KeepsWalks.alloc _ _) ⟨⟨v,HV.out.alloc _,HRW.out.alloc _,trivial⟩,HB.out.alloc HB.out.size _⟩ ⟨W.heap.size,hlt,Mg.new _ _ _ _ _ _,rfl⟩
 case body =>
  rintro l pre ⟨⟨⟨g,u,f,fl,t⟩,bo⟩,hx⟩ a' W hl ⟨r,hr⟩ ⟨⟨v,hv,hrow,_⟩,hB⟩ ⟨Bx,hBx,bX,rfl⟩ hlt
  obtain ⟨fa,fn',fc,hf⟩:=HSL.out _ hx
  dsimp only at hf
  subst hf
  have HV:=hid hv
  have HRW:=hid hrow
  have HB:=hid hB
  have c1:=hv.cell
  have c2:=bX.cells
  have HLT:=hid hlt
  clear hrow hB hr hl bX hlt hv
  dsimp only [zv] at c2 ⊢
  gi_wp2_with (gi_at_builtin;refine wpListIn_append_own _ rfl _ _ 35 rfl w.heap.size 86 i0 (.agg #[.int .i64 0,.int .i64 0,.slice none 0 0,.string ⟨#[]⟩]) 4 56 Tryz.underlying35 hi hz0 hz1 hz2 rfl (by decide) _ _ _ rfl (HRW.out.alloc _) ⟨W.heap.size,0,none⟩ 1 1 (zc [(g,u,.slice fa fn' fc,fl,t)]) rfl rfl (cells_new4 W (g,u,.slice fa fn' fc,fl,t) 86) (zc_one (fun z hz=>by simp at hz;subst hz;exact ⟨_,_,_,rfl⟩)) (by have:=HLT.out;rw [got_len];unfold maxLen;omega) (by have:=HLT.out;rw [got_len];omega) (by have:=HB.out.size;simp;omega) ?_;intro v' w1 hown' hgrow _;obtain ⟨g',cap',rfl⟩:=ownsRow_succ hown';obtain ⟨hv1,hv2,hr2,hk2,hb2⟩:=HV.out.appended (by decide) HRW.out HB.out.size (Nat.le_refl _) hown' hgrow;have hc1:=hv1.cell;have hf1:=hv1.frozen;have HR2:=hid hr2;have HK2:=hid hk2;have HB2:=hid hb2;have HV2:=hid hv2;clear hr2 hk2 hb2 hv2 hv1 hgrow hown')
  refine ⟨HK2.out.from _,⟨HK2.out.size,fun k o h hw=>HK2.out.same k o h (by cases o <;> first | rfl | cases hw)⟩,⟨⟨_,HV2.out,?_,trivial⟩,HB.out.trans HB2.out⟩⟩
  have:=HR2.out
  rw [got_snoc,zc_app]
  simpa using this
 case done =>
  rintro D xs W hD hS ⟨⟨v,hv,hrow,_⟩,hB⟩ hK
  have c1:=hv.cell
  have HS:=hid hS
  have HRW:=hid hrow
  have HB:=hid hB
  have HK:=hid hK
  clear hS hrow hB hv
  gi_wp2
  refine ⟨by simp,.inl ⟨_,_,rfl,run_takeDeferred HK.out,?_⟩⟩
  refine ⟨_,results_tmp rfl _ _ _,v,xs,rfl,HS.out,ownsRow_putObj HRW.out _ HK.out rfl,HB.out.trans (belowK_b (w:=w) (Nat.le_refl _) W D _ _ (by omega) HK.out rfl rfl)⟩
 case stop =>
  rintro D c' pre W _ _ h _
  exact h.elim
end Go.Proofs.YtkbecgcbheopnaaGreat
namespace Go.Proofs.YtkbecgcbheopnaaGreat
open Go.RowKit Go.ChangeMaps
theorem nan_any (x:Int) (w:World):Calls Tryz.prog 130 #[.int .i64 x] w fun e w'=>e=.returned (.bool false)∧w'=w:=by
 have h:(x != x)=false:=by simp
 go_enter Tryz.func130,Tryz.ntmps130
 go_wp2
 go_ret
 exact ⟨rfl,rfl⟩
def cpr (x y:Int):Int:=if x<y then -1 else if y<x then 1 else 0
theorem cpr_less (x y:Int):decide (cpr x y<0)=decide (x<y):=by
 unfold cpr
 by_cases h:x<y
 ·simp [h]
 ·by_cases h2:y<x
  ·simp [h,h2]
  ·simp [h,h2]
theorem compare_any (x y:Int) (w:World):Calls Tryz.prog 98 #[.int .i64 x,.int .i64 y] w fun e w'=>e=.returned (.int .i64 (cpr x y))∧w'=w:=by
 by_cases h1:x<y
 ·have HE:Hid (cpr x y=-1):=by show _=_;simp [cpr,h1]
  go_enter Tryz.func98,Tryz.ntmps98
  go_wp2_with fail
  refine (nan_any x _).mono ?_;rintro e w1 ⟨rfl,h⟩
  subst h
  go_wp2_with fail
  refine (nan_any y _).mono ?_;rintro e w1 ⟨rfl,h⟩
  subst h
  go_wp2
  go_ret
  exact ⟨by rw [HE.out];rfl,rfl⟩
 ·by_cases h2:y<x
  ·have HE:Hid (cpr x y=1):=by show _=_;simp [cpr,h1,h2]
   go_enter Tryz.func98,Tryz.ntmps98
   go_wp2_with fail
   refine (nan_any x _).mono ?_;rintro e w1 ⟨rfl,h⟩
   subst h
   go_wp2_with fail
   refine (nan_any y _).mono ?_;rintro e w1 ⟨rfl,h⟩
   subst h
   go_wp2
   go_ret
   exact ⟨by rw [HE.out];rfl,rfl⟩
  ·have HE:Hid (cpr x y=0):=by show _=_;simp [cpr,h1,h2]
   go_enter Tryz.func98,Tryz.ntmps98
   go_wp2_with fail
   refine (nan_any x _).mono ?_;rintro e w1 ⟨rfl,h⟩
   subst h
   go_wp2_with fail
   refine (nan_any y _).mono ?_;rintro e w1 ⟨rfl,h⟩
   subst h
   go_wp2
   go_ret
   exact ⟨by rw [HE.out];rfl,rfl⟩
theorem byUid_any (g u:Int) (f:Value) (t:ByteArray) (g' u':Int) (f':Value) (t':ByteArray) (w:World) :
  Calls Tryz.prog 169 #[.agg #[.int .i64 g,.int .i64 u,f,.string t],.agg #[.int .i64 g',.int .i64 u',f',.string t']] w fun e w'=>e=.returned (.int .i64 (cpr u u'))∧Below w.heap.size w w':=by
 obtain ⟨W0,hW0⟩:∃ W0,((w.alloc (.cells #[.int .i64 g,.int .i64 u,f,.string t] 86)).alloc (.cells #[.int .i64 g',.int .i64 u',f',.string t'] 86))=W0:=⟨_,rfl⟩
 obtain ⟨a0,a1,b0⟩:=two_mails w _ _ _ _ _ _ _ _ _ _ W0 hW0
 have c0:=a0.cells
 have c1:=a1.cells
 have B0:=hid b0
 clear a0 a1 b0
 go_enter Tryz.func169,Tryz.ntmps169
 go_wp2_with fail
 clear hW0
 refine (compare_any u u' _).mono ?_;rintro e w1 ⟨rfl,h⟩
 subst h
 obtain ⟨q,hq⟩:∃ q,cpr u u'=q:=⟨_,rfl⟩
 rw [hq]
 have HQ:=hid hq
 clear hq
 go_wp2
 go_ret
 exact ⟨by rw [HQ.out];rfl,B0.out⟩
set_option maxRecDepth 100000 in
theorem len64_any (n:Nat) (hn:n≤12) (w:World):Calls Tryz.prog 165 #[.int .u64 (n:Int)] w fun e w'=>(∃ k,e=.returned (.int .i64 k))∧w'=w:=by
 have h:n=0∨n=1∨n=2∨n=3∨n=4∨n=5∨n=6∨n=7∨n=8∨n=9∨n=10∨n=11∨n=12:=by omega
 rcases h with rfl | rfl | rfl | rfl | rfl | rfl | rfl | rfl | rfl | rfl | rfl | rfl | rfl
 all_goals
  clear hn
  go_enter Tryz.func165,Tryz.ntmps165
  go_wp2
  go_ret
  exact ⟨⟨_,rfl⟩,rfl⟩
def uz (Z:List Z5) (k:Nat):Int:=((Z[k]?).map (fun z=>z.2.1)).getD 0
theorem uz_at {Z:List Z5} {k:Nat} (h:k<Z.length):uz Z k=Z[k].2.1:=by unfold uz;rw [List.getElem?_eq_getElem h];rfl
def sw (Z:List Z5) (q:Nat) (x y:Z5):List Z5:=(Z.set (q+1) x).set q y
theorem sw_perm {Z:List Z5} {q:Nat} (h:q+1<Z.length):(sw Z q Z[q] Z[q+1]).Perm Z:=by
 induction Z generalizing q with
 | nil=>simp at h
 | cons a Z ih =>
  cases q with
  | zero =>
   cases Z with
   | nil=>simp at h
   | cons b Z=>exact List.Perm.swap a b Z
  | succ q =>
   have h':q+1<Z.length:=by simpa using h
   exact (ih h').cons a
theorem sw_uz {Z:List Z5} {q:Nat} (h:q+1<Z.length) (k:Nat):uz (sw Z q Z[q] Z[q+1]) k=if k=q then uz Z (q+1) else if k=q+1 then uz Z q else uz Z k:=by
 unfold uz sw
 by_cases h1:k=q
 ·subst h1
  rw [if_pos rfl,List.getElem?_set_self (by simp;omega),List.getElem?_eq_getElem h]
 ·rw [if_neg h1,List.getElem?_set_ne (Ne.symm h1)]
  by_cases h2:k=q+1
  ·subst h2
   rw [if_pos rfl,List.getElem?_set_self h,List.getElem?_eq_getElem (by omega)]
  ·rw [if_neg h2,List.getElem?_set_ne (Ne.symm h2)]
def Srt (Z:List Z5) (i:Nat):Prop:=∀ a b,a<b→b<i→uz Z a≤uz Z b
def Ins (Z:List Z5) (i j:Nat):Prop:=(∀ a b,a<b→b≤i→a≠j→b≠j→uz Z a≤uz Z b)∧(∀ b,j<b→b≤i→uz Z j≤uz Z b)
theorem Ins.start {Z:List Z5} {i:Nat} (h:Srt Z i):Ins Z i i:=⟨fun a b h1 h2 _ h4=>h a b h1 (by omega),fun b h1 h2=>by omega⟩
theorem Ins.fin0 {Z:List Z5} {i:Nat} (h:Ins Z i 0):Srt Z (i+1):=by
 intro a b h1 h2
 by_cases ha:a=0
 ·subst ha;exact h.2 b h1 (by omega)
 ·exact h.1 a b h1 (by omega) ha (by omega)
theorem Ins.fin {Z:List Z5} {i q:Nat} (h:Ins Z i (q+1)) (hu:uz Z q≤uz Z (q+1)):Srt Z (i+1):=by
 intro a b h1 h2
 by_cases ha:a=q+1
 ·subst ha;exact h.2 b h1 (by omega)
 ·by_cases hb:b=q+1
  ·subst hb
   by_cases haq:a=q
   ·subst haq;exact hu
   ·exact Int.le_trans (h.1 a q (by omega) (by omega) ha (by omega)) hu
  ·exact h.1 a b h1 (by omega) ha hb
theorem Ins.step {Z:List Z5} {i q:Nat} (hl:q+1<Z.length) (h:Ins Z i (q+1)) (hu:uz Z (q+1)<uz Z q):Ins (sw Z q Z[q] Z[q+1]) i q:=by
 refine ⟨fun a b h1 h2 h3 h4=>?_,fun b h1 h2=>?_⟩
 ·rw [sw_uz hl,sw_uz hl,if_neg h3,if_neg h4]
  by_cases ha:a=q+1
  ·rw [if_pos ha,if_neg (by omega)]
   exact h.1 q b (by omega) h2 (by omega) (by omega)
  ·rw [if_neg ha]
   by_cases hb:b=q+1
   ·rw [if_pos hb]
    exact h.1 a q (by omega) (by omega) ha (by omega)
   ·rw [if_neg hb]
    exact h.1 a b h1 h2 ha hb
 ·rw [sw_uz hl,sw_uz hl,if_pos rfl,if_neg (by omega)]
  by_cases hb:b=q+1
  ·rw [if_pos hb];omega
  ·rw [if_neg hb]
   exact h.2 b (by omega) h2
abbrev Rw (W:World) (B g n cap:Nat) (Z:List Z5):Prop:=W.ownsRow B 86 4 (.slice (some ⟨g,0,none⟩) n cap) n (zc Z)
theorem Rw.len {W:World} {B g n cap:Nat} {Z:List Z5} (h:Rw W B g n cap Z):Z.length=n:=by have:=h.1;rw [zc_len] at this;omega
theorem Rw.set {W:World} {B g n cap:Nat} {Z:List Z5} (h:Rw W B g n cap Z) (i:Nat) (hi:i<n) (z:Z5) :
  Rw ((((W.setCell ⟨g,i*4,none⟩ (.int .i64 z.1)).setCell ⟨g,i*4+1,none⟩ (.int .i64 z.2.1)).setCell ⟨g,i*4+2,none⟩ z.2.2.1).setCell ⟨g,i*4+3,none⟩ (.string z.2.2.2.2)) B g n cap (Z.set i z):=by
 have h1:=(World.ownsRow.stored h (i*4) (.int .i64 z.1)).1
 have h2:=(World.ownsRow.stored h1 (i*4+1) (.int .i64 z.2.1)).1
 have h3:=(World.ownsRow.stored h2 (i*4+2) z.2.2.1).1
 have h4:=(World.ownsRow.stored h3 (i*4+3) (.string z.2.2.2.2)).1
 rw [zc_set Z i z (by rw [h.len];exact hi)] at h4
 exact h4
theorem Rw.spot {W:World} {B g n cap:Nat} {Z:List Z5} (h:Rw W B g n cap Z) (i:Nat) (hi:i<Z.length) :
  (W.cell? ⟨g,i*4,none⟩=some (.int .i64 Z[i].1)∧W.cell? ⟨g,i*4+1,none⟩=some (.int .i64 Z[i].2.1)∧W.cell? ⟨g,i*4+2,none⟩=some Z[i].2.2.1∧W.cell? ⟨g,i*4+3,none⟩=some (.string Z[i].2.2.2.2)) ∧
  W.frozen? ⟨g,i*4,none⟩=false∧W.frozen? ⟨g,i*4+1,none⟩=false∧W.frozen? ⟨g,i*4+2,none⟩=false∧W.frozen? ⟨g,i*4+3,none⟩=false:=by
 have e:=zc_at Z i hi
 have hl:=h.len
 exact ⟨⟨(h.cellAt _ (by omega)).trans e.1,(h.cellAt _ (by omega)).trans e.2.1,(h.cellAt _ (by omega)).trans e.2.2.1,(h.cellAt _ (by omega)).trans e.2.2.2⟩,h.frozenAt _,h.frozenAt _,h.frozenAt _,h.frozenAt _⟩
theorem gbl {a w w':World} {r:Option Nat} (h:a.grownBy w r) (hb:Below w.heap.size w w'):a.grownBy w' r:=wtr h ⟨hb.os,hb.tape,hb.output,hb.size,fun k hk _=>hb.block k hk⟩
set_option maxHeartbeats 4000000 in
set_option maxRecDepth 100000 in
theorem insertion_any (B g n cap:Nat) (Z0:List Z5) (w:World) (hn:n≤1048576) (hsl:∀ z∈Z0,∃ a k c,z.2.2.1=.slice a k c) (hrow:Rw w B g n cap Z0) :
  Calls Tryz.prog 197 #[.slice (some ⟨g,0,none⟩) n cap,.int .i64 0,.int .i64 (n:Int),.func (.func 169) #[] #[]] w fun e w'=>(∃ v,e=.returned v)∧∃ Z,Z.Perm Z0∧Srt Z n∧Rw w' B g n cap Z∧w.grownBy w' (some g):=by
 have HSL:=hid hsl
 have HRW:=hid hrow
 clear hsl hrow
 go_enter Tryz.func197,Tryz.ntmps197
 go_wp2
 go_loopw [8] (fun iv wr=>∃ i:Nat,i≤n+1∧1≤i∧iv=.int .i64 (i:Int)∧(∃ Z,Z.Perm Z0∧Srt Z i∧Rw wr B g n cap Z∧w.grownBy wr (some g))) (fun iv _=>n+1 - (intOf iv).toNat)
 case atStart=>exact ⟨1,by omega,Nat.le_refl _,rfl,Z0,List.Perm.refl _,(fun a b h1 h2=>by omega),HRW.out,wre _ _⟩
 case round =>
  obtain ⟨i,hin,hi1,rfl,Z,hp,hs,hr,hg⟩:=hrel
  have HP:=hid hp
  have HS:=hid hs
  have HR:=hid hr
  have HG:=hid hg
  clear hp hs hr hg
  by_cases hlt:i<n
  ·go_wp2
   go_loopw [9] (fun jv wr2=>∃ j:Nat,j≤i∧jv=.int .i64 (j:Int)∧(∃ Z,Z.Perm Z0∧Ins Z i j∧Rw wr2 B g n cap Z∧w.grownBy wr2 (some g))) (fun jv _=>(intOf jv).toNat)
   case atStart=>exact ⟨i,Nat.le_refl _,rfl,Z,HP.out,Ins.start HS.out,HR.out,HG.out⟩
   case round =>
    obtain ⟨j,hji,rfl,Y,hp,hs,hr,hg⟩:=hrel
    have HP:=hid hp
    have HS:=hid hs
    have HR:=hid hr
    have HG:=hid hg
    clear hp hs hr hg
    by_cases h0:j=0
    ·subst h0
     have HE:=hid HS.out.fin0
     go_wp2_with fail
     go_region
     go_wp2
     go_roundw
     case rel=>exact ⟨i+1,by omega,by omega,by go_num,Y,HP.out,HE.out,HR.out,gdr HG.out⟩
     case measure=>simp [intOf];omega
    ·obtain ⟨q,hjq⟩:∃ q:Nat,j=q+1:=⟨j - 1,by omega⟩
     have hl:=HR.out.len
     have hq0:q<Y.length:=by omega
     have hq1:q+1<Y.length:=by omega
     have hj1:j<Y.length:=by omega
     obtain ⟨c,f⟩:=HR.out.spot q hq0
     obtain ⟨d,e⟩:=HR.out.spot j hj1
     have hx:=HSL.out Y[q] (HP.out.mem_iff.1 (List.getElem_mem hq0))
     have hy:=HSL.out Y[j] (HP.out.mem_iff.1 (List.getElem_mem hj1))
     have hux:=uz_at hq0
     have huy:=uz_at hq1
     have hperm:=sw_perm hq1
     have hstep:=Ins.step (i:=i) hq1 (by rw [← hjq];exact HS.out)
     have hfin:uz Y q≤uz Y (q+1)→Srt Y (i+1):=Ins.fin (by rw [← hjq];exact HS.out)
     obtain ⟨x,hxe⟩:∃ x,Y[q]=x:=⟨_,rfl⟩
     obtain ⟨y,hye⟩:∃ y,Y[q+1]=y:=⟨_,rfl⟩
     have hyj:Y[j]=y:=by subst hjq;exact hye
     rw [hxe] at c hx hux hperm hstep
     rw [hye] at huy hperm hstep
     rw [hyj] at d hy
     have hsw:sw Y q x y=(Y.set j x).set q y:=by rw [hjq];rfl
     rw [hsw] at hperm hstep
     have hr1:=fun (W:World) (h:Rw W B g n cap Y)=>Rw.set h j (by omega) x
     have hr2:=fun (W:World) (h:Rw W B g n cap (Y.set j x))=>Rw.set h q (by omega) y
     obtain ⟨g1,u1,f1,l1,t1⟩:=x
     obtain ⟨g2,u2,f2,l2,t2⟩:=y
     obtain ⟨a1,k1,c1,hf1⟩:=hx
     obtain ⟨a2,k2,c2,hf2⟩:=hy
     dsimp only at hf1 hf2 c d hux huy
     subst hf1 hf2
     rw [hux,huy] at hstep hfin
     dsimp only at hr1 hr2
     have HST:=hid hstep
     have HFN:=hid hfin
     have HPM:=hid (hperm.trans HP.out)
     have HR1:=hid hr1
     have HR2:=hid hr2
     have HJQ:=hid hjq
     have hij:(j:Int) - 1=(q:Int):=by omega
     have hwj:IntKind.i64.wrap (q:Int)=(q:Int):=by rw [IntKind.wrap_i64];omega
     have hJ:(0:Int)≤(q:Int)∧(q:Int)<(n:Int):=by omega
     have hJ1:(0:Int)≤(j:Int)∧(j:Int)<(n:Int):=by omega
     have hpos:(0:Int)<(j:Int):=by omega
     have hposN:0<j:=by omega
     have HSC:Hid (∀ W,Below wr.heap.size wr W→(W.cell? ⟨g,q*4,none⟩=some (.int .i64 g1)∧W.cell? ⟨g,q*4+1,none⟩=some (.int .i64 u1)∧W.cell? ⟨g,q*4+2,none⟩=some (.slice a1 k1 c1)∧W.cell? ⟨g,q*4+3,none⟩=some (.string t1))∧(W.cell? ⟨g,j*4,none⟩=some (.int .i64 g2)∧W.cell? ⟨g,j*4+1,none⟩=some (.int .i64 u2)∧W.cell? ⟨g,j*4+2,none⟩=some (.slice a2 k2 c2)∧W.cell? ⟨g,j*4+3,none⟩=some (.string t2))):=fun W h=>⟨C4.later c (HR.out.lt g rfl).2 h,C4.later d (HR.out.lt g rfl).2 h⟩
     clear hstep hfin hperm hr1 hr2 hux huy hxe hye hyj hq0 hq1 hl hjq hsw h0 hj1 c d
     obtain ⟨r,hr⟩:∃ r,cpr u2 u1=r:=⟨_,rfl⟩
     have HCR:=hid hr
     have HLS:=hid (cpr_less u2 u1)
     rw [hr] at HLS
     clear hr
     go_wp2_with fail
     go_region_held3 (fun W=>(W.cell? ⟨g,q*4,none⟩=some (.int .i64 g1)∧W.cell? ⟨g,q*4+1,none⟩=some (.int .i64 u1)∧W.cell? ⟨g,q*4+2,none⟩=some (.slice a1 k1 c1)∧W.cell? ⟨g,q*4+3,none⟩=some (.string t1))∧(W.cell? ⟨g,j*4,none⟩=some (.int .i64 g2)∧W.cell? ⟨g,j*4+1,none⟩=some (.int .i64 u2)∧W.cell? ⟨g,j*4+2,none⟩=some (.slice a2 k2 c2)∧W.cell? ⟨g,j*4+3,none⟩=some (.string t2)))
      ((first | exact HSC.out _ (bdr (bre _)) | exact HSC.out _ (btr (bdr (bre _)) hb2)))
      ((go_at_call 169;refine (byUid_any g2 u2 (.slice a2 k2 c2) t2 g1 u1 (.slice a1 k1 c1) t1 _).mono ?_;rintro e w2 ⟨rfl,hb2⟩;rw [HCR.out];have B2:=hid (show Below wr.heap.size wr w2 from btr (bdr (bre _)) hb2)))
     by_cases hu:u2<u1
     ·have hr0:r<0:=by have:=HLS.out;simp only [hu,decide_true,decide_eq_true_eq] at this;exact this
      have HU:=hid hu
      have R2:=hid (own_later HR.out B2.out)
      have hc:=HSC.out _ B2.out
      have c':=hc.1
      have d':=hc.2
      have z0:=R2.out.frozenAt (q*4)
      have z1:=R2.out.frozenAt (q*4+1)
      have z2:=R2.out.frozenAt (q*4+2)
      have z3:=R2.out.frozenAt (q*4+3)
      have y0:=R2.out.frozenAt (j*4)
      have y1:=R2.out.frozenAt (j*4+1)
      have y2:=R2.out.frozenAt (j*4+2)
      have y3:=R2.out.frozenAt (j*4+3)
      clear hc f e hb2
      go_wp2_with fail
      clear hr0
      go_region
      have r5:=HR2.out _ (HR1.out _ R2.out)
      have g5:=wst (wst (wst (wst (wst (wst (wst (wst (gbl HG.out B2.out) (j*4) (.int .i64 g1)) (j*4+1) (.int .i64 u1)) (j*4+2) (.slice a1 k1 c1)) (j*4+3) (.string t1)) (q*4) (.int .i64 g2)) (q*4+1) (.int .i64 u2)) (q*4+2) (.slice a2 k2 c2)) (q*4+3) (.string t2)
      obtain ⟨W5,hW5⟩:∃ W5,((((((((w2.setCell ⟨g,j*4,none⟩ (.int .i64 g1)).setCell ⟨g,j*4+1,none⟩ (.int .i64 u1)).setCell ⟨g,j*4+2,none⟩ (.slice a1 k1 c1)).setCell ⟨g,j*4+3,none⟩ (.string t1)).setCell ⟨g,q*4,none⟩ (.int .i64 g2)).setCell ⟨g,q*4+1,none⟩ (.int .i64 u2)).setCell ⟨g,q*4+2,none⟩ (.slice a2 k2 c2)).setCell ⟨g,q*4+3,none⟩ (.string t2))=W5:=⟨_,rfl⟩
      rw [hW5] at r5 g5 ⊢
      have R5:=hid (World.ownsRow.drew r5)
      have G5:=hid (gdr g5)
      clear hW5 r5 g5
      have HST2:=hid (HST.out HU.out)
      clear c' d' z0 z1 z2 z3 y0 y1 y2 y3
      go_wp2
      go_roundw
      case rel=>exact ⟨q,by have:=HJQ.out;omega,by go_num,_,HPM.out,HST2.out,R5.out,G5.out⟩
      case measure=>simp [intOf];have:=HJQ.out;omega
     ·have hr0:¬ r<0:=by have:=HLS.out;simp only [hu,decide_false,decide_eq_false_iff_not] at this;exact this
      have HE:=hid (HFN.out (by omega))
      clear hu hb2 f e
      go_wp2
      go_roundw
      case rel=>exact ⟨i+1,by omega,by omega,by go_num,Y,HP.out,HE.out,own_later HR.out B2.out,gbl HG.out B2.out⟩
      case measure=>simp [intOf];omega
  ·have HN:Hid (n≤i):=by show _≤_;omega
   go_wp2
   go_end0
   exact ⟨⟨_,rfl⟩,Z,HP.out,(fun a b h1 h2=>HS.out a b h1 (by have:=HN.out;omega)),HR.out,HG.out⟩
end Go.Proofs.YtkbecgcbheopnaaGreat
namespace Go.Proofs.YtkbecgcbheopnaaGreat
open Go.RowKit Go.ChangeMaps
theorem bitsLen_any (n:Nat) (hn:n≤12) (w:World):Calls Tryz.prog 136 #[.int .u64 (n:Int)] w fun e w'=>(∃ k,e=.returned (.int .i64 k))∧w'=w:=by
 have HC:=hid (len64_any n hn w)
 clear hn
 go_enter Tryz.func136,Tryz.ntmps136
 go_wp2_with fail
 refine HC.out.mono ?_;rintro e w1 ⟨⟨k,rfl⟩,h⟩
 subst h
 go_wp2
 go_ret
 exact ⟨⟨k,rfl⟩,rfl⟩
set_option maxHeartbeats 1600000 in
set_option maxRecDepth 100000 in
theorem pdq_any (B g n cap:Nat) (k:Int) (Z0:List Z5) (w:World) (hn:n≤12) (hsl:∀ z∈Z0,∃ a k c,z.2.2.1=.slice a k c) (hrow:Rw w B g n cap Z0) :
  Calls Tryz.prog 196 #[.slice (some ⟨g,0,none⟩) n cap,.int .i64 0,.int .i64 (n:Int),.int .i64 k,.func (.func 169) #[] #[]] w fun e w'=>(∃ v,e=.returned v)∧∃ Z,Z.Perm Z0∧Srt Z n∧Rw w' B g n cap Z∧w.grownBy w' (some g):=by
 have HC:=hid (insertion_any B g n cap Z0 w (by omega) hsl hrow)
 have h12:(n:Int)≤12:=by omega
 clear hsl hrow hn
 go_enter Tryz.func196,Tryz.ntmps196
 go_wp2
 refine wp_loop_rounds 1 ?_
 rw [rounds_succ]
 go_wp2_with fail
 refine HC.out.mono ?_;rintro e w1 ⟨⟨v,rfl⟩,Z,h1,h2,h3,h4⟩
 have H1:=hid h1
 have H2:=hid h2
 have H3:=hid h3
 have H4:=hid h4
 clear h1 h2 h3 h4
 go_wp2
 refine bodyPost_ret (results_none rfl _ _ _) rfl ?_
 exact ⟨⟨_,rfl⟩,Z,H1.out,H2.out,H3.out,H4.out⟩
theorem ins_zero (a:Option Addr) (cap:Nat) (w:World) :
  Calls Tryz.prog 197 #[.slice a 0 cap,.int .i64 0,.int .i64 0,.func (.func 169) #[] #[]] w fun e w'=>(∃ v,e=.returned v)∧w'=w:=by
 go_enter Tryz.func197,Tryz.ntmps197
 go_wp2
 refine wp_loop_rounds 1 ?_
 rw [rounds_succ]
 go_wp2
 go_end0
 exact ⟨⟨_,rfl⟩,rfl⟩
set_option maxHeartbeats 1600000 in
set_option maxRecDepth 100000 in
theorem pdq_zero (a:Option Addr) (cap:Nat) (k:Int) (w:World) :
  Calls Tryz.prog 196 #[.slice a 0 cap,.int .i64 0,.int .i64 0,.int .i64 k,.func (.func 169) #[] #[]] w fun e w'=>(∃ v,e=.returned v)∧w'=w:=by
 go_enter Tryz.func196,Tryz.ntmps196
 go_wp2
 refine wp_loop_rounds 1 ?_
 rw [rounds_succ]
 go_wp2_with fail
 refine (ins_zero a cap _).mono ?_;rintro e w1 ⟨⟨v,rfl⟩,h⟩
 subst h
 go_wp2
 refine bodyPost_ret (results_none rfl _ _ _) rfl ?_
 exact ⟨⟨_,rfl⟩,rfl⟩
set_option maxRecDepth 100000 in
theorem sortFunc_any (B n:Nat) (v:Value) (Z0:List Z5) (w:World) (hn:n≤12) (hsl:∀ z∈Z0,∃ a k c,z.2.2.1=.slice a k c) (hrow:w.ownsRow B 86 4 v n (zc Z0)) :
  Calls Tryz.prog 188 #[v,.func (.func 169) #[] #[]] w fun e w'=>(∃ v,e=.returned v)∧∃ Z,Z.Perm Z0∧Srt Z n∧w'.ownsRow B 86 4 v n (zc Z)∧w.grownBy w' v.ownBlock:=by
 have hwu:IntKind.u64.wrap (n:Int)=(n:Int):=by rw [IntKind.wrap_u64];omega
 rcases hrow.2 with ⟨rfl,rfl⟩ | ⟨g,cap,cur,rfl,_⟩
 ·have HRW:=hid hrow
  clear hrow hsl
  go_enter Tryz.func188,Tryz.ntmps188
  go_wp2_with fail
  refine (bitsLen_any 0 (by omega) _).mono ?_;rintro e w1 ⟨⟨k,rfl⟩,h⟩
  subst h
  go_wp2_with fail
  refine (pdq_zero none 0 k _).mono ?_;rintro e w1 ⟨⟨v,rfl⟩,h⟩
  subst h
  go_wp2
  go_end0
  exact ⟨⟨_,rfl⟩,Z0,List.Perm.refl _,(fun a b h1 h2=>by omega),HRW.out,wre _ _⟩
 ·have HC:=fun k W (h:Rw W B g n cap Z0)=>pdq_any B g n cap k Z0 W hn hsl h
  have HC':=hid HC
  have HRW:=hid hrow
  have HN:=hid hn
  clear hrow hsl HC hn
  go_enter Tryz.func188,Tryz.ntmps188
  go_wp2_with fail
  refine (bitsLen_any n HN.out _).mono ?_;rintro e w1 ⟨⟨k,rfl⟩,h⟩
  subst h
  go_wp2_with fail
  refine (HC'.out k _ HRW.out).mono ?_;rintro e w1 ⟨⟨v,rfl⟩,Z,h1,h2,h3,h4⟩
  have H1:=hid h1
  have H2:=hid h2
  have H3:=hid h3
  have H4:=hid h4
  clear h1 h2 h3 h4
  go_wp2
  go_end0
  exact ⟨⟨_,rfl⟩,Z,H1.out,H2.out,H3.out,H4.out⟩
theorem values_any (b:Nat) (w:World) :
  Calls Tryz.prog 168 #[.map (some b)] w fun e w'=>e=.returned (.func (.func 189) #[] #[.pointer (some ⟨w.heap.size,0,none⟩)])∧w'=w.alloc (.cells #[.map (some b)] 114):=by
 go_enter Tryz.func168,Tryz.ntmps168
 go_wp2
 go_ret
 exact ⟨rfl,rfl⟩
set_option maxHeartbeats 1600000 in
theorem collect_any (Bm b c B:Nat) (E:List En) (w:World) (hN:E.length≤1048576) (hBm:Bm<w.heap.size) (hm:w.cell? ⟨Bm,0,none⟩=some (.map (some b))) (hmp:OwMp w B b E c) :
  Calls Tryz.prog 187 #[.func (.func 189) #[] #[.pointer (some ⟨Bm,0,none⟩)]] w fun e w' =>
   ∃ v xs,e=.returned v∧(xs.map (fun x:{ e:En // e∈E }=>x.1)).Perm E∧w'.ownsRow w.heap.size 86 4 v (got xs).length (zc (got xs))∧Below w.heap.size w w':=by
 have HC:=hid (appendSeq_any Bm b c B E w hN hBm hm hmp)
 clear hBm hm hmp
 go_enter Tryz.func187,Tryz.ntmps187
 go_wp2_with fail
 refine HC.out.mono ?_;rintro e w1 ⟨v,xs,rfl,h1,h2,h3⟩
 have H1:=hid h1
 have H2:=hid h2
 have H3:=hid h3
 clear h1 h2 h3
 go_wp2
 go_ret
 exact ⟨v,xs,rfl,H1.out,H2.out,H3.out⟩
theorem got_perm {E:List En} {xs:List { e:En // e∈E }} (h:(xs.map (fun x=>x.1)).Perm E):(got xs).Perm (E.map (fun e=>e.1)):=by
 have:=h.map (fun e:En=>e.1)
 rwa [List.map_map] at this
set_option maxHeartbeats 1600000 in
theorem sortedFunc_any (Bm b c B:Nat) (E:List En) (w:World) (hN:E.length≤12) (hBm:Bm<w.heap.size) (hm:w.cell? ⟨Bm,0,none⟩=some (.map (some b))) (hmp:OwMp w B b E c) :
  Calls Tryz.prog 167 #[.func (.func 189) #[] #[.pointer (some ⟨Bm,0,none⟩)],.func (.func 169) #[] #[]] w fun e w' =>
   ∃ v Z,e=.returned v∧Z.Perm (E.map (fun e=>e.1))∧Srt Z Z.length∧OwZ w' B v Z∧w'.ownsRow w.heap.size 86 4 v Z.length (zc Z)∧Below w.heap.size w w':=by
 have HC:=hid (collect_any Bm b c B E w (by omega) hBm hm hmp)
 have HMP:=hid hmp
 have HN:=hid hN
 clear hBm hm hmp hN
 go_enter Tryz.func167,Tryz.ntmps167
 go_wp2_with fail
 refine HC.out.mono ?_;rintro e w1 ⟨v,xs,rfl,h1,h2,h3⟩
 have hp:=got_perm h1
 have hle:(got xs).length=E.length:=by have:=hp.length_eq;simpa using this
 have H2:=hid h2
 have H3:=hid h3
 have HP:=hid hp
 have HLE:=hid hle
 have HSL:Hid (∀ z∈got xs,∃ a k c,z.2.2.1=.slice a k c):=by
  intro z hz
  obtain ⟨e,he,rfl⟩:=List.mem_map.1 (hp.mem_iff.1 hz)
  obtain ⟨a,c,h,_⟩:=Ow.shape (HMP.out.each e he)
  exact ⟨a,_,c,h⟩
 clear h1 h2 h3 hp hle
 go_wp2_with fail
 refine (sortFunc_any w.heap.size (got xs).length v (got xs) _ (by rw [HLE.out];exact HN.out) HSL.out H2.out).mono ?_;rintro e w2 ⟨⟨v2,rfl⟩,Z,g1,g2,g3,g4⟩
 have hzl:Z.length=(got xs).length:=g1.length_eq
 rw [← hzl] at g2 g3
 have hb2:Below w.heap.size w w2:=H3.out.trans (below_grownR g4 (fun j hj=>(H2.out.lt j hj).1) H3.out.size)
 have hpz:=g1.trans HP.out
 have how:OwZ w2 B v Z:=by
  have hbB:B≤w.heap.size:=Nat.le_of_lt (Nat.lt_of_le_of_lt HMP.out.base (Array.getElem?_eq_some_iff.1 HMP.out.lies).1)
  refine ⟨own_base g3 hbB,fun z hz=>?_,fun z hz j hj hj'=>?_,?_⟩
  ·obtain ⟨e,he,rfl⟩:=List.mem_map.1 (hpz.mem_iff.1 hz)
   exact own_later (HMP.out.each e he) hb2
  ·obtain ⟨e,he,rfl⟩:=List.mem_map.1 (hpz.mem_iff.1 hz)
   have k1:=((HMP.out.each e he).lt j hj').2
   have k2:=(g3.lt j hj).1
   omega
  ·refine (hpz.pairwise_iff (fun h=>h.symm)).2 ?_
   exact List.pairwise_map.2 HMP.out.apart
 have K1:=hid hpz
 have K2:=hid g2
 have K3:=hid how
 have K4:=hid hb2
 have K5:=hid g3
 clear g1 g2 g3 g4 hzl hb2 hpz how
 go_wp2
 go_ret
 exact ⟨v,Z,rfl,K1.out,K2.out,K3.out,K5.out,K4.out⟩
theorem told_any (b c B:Nat) (E:List En) (w:World) (hN:E.length≤12) (hmp:OwMp w B b E c) :
  Calls Tryz.prog 140 #[.map (some b)] w fun e w' =>
   ∃ v Z,e=.returned v∧Z.Perm (E.map (fun e=>e.1))∧Srt Z Z.length∧OwZ w' B v Z∧w'.ownsRow w.heap.size 86 4 v Z.length (zc Z)∧Below w.heap.size w w':=by
 have HMP:=hid hmp
 clear hmp
 go_enter Tryz.func140,Tryz.ntmps140
 go_wp2_with fail
 refine (values_any b _).mono ?_;rintro e w1 ⟨rfl,h⟩
 subst h
 have b1:Below w.heap.size w (w.alloc (.cells #[.map (some b)] 114)):=bpush (bre _) _
 have HC:=hid (sortedFunc_any w.heap.size b c B E (w.alloc (.cells #[.map (some b)] 114)) hN (by simp) (by have h:=heap_alloc_new w (.cells #[.map (some b)] 114);exact cell_of_row _ _ 0 _ _ _ h) (HMP.out.later b1))
 have B1:=hid b1
 clear b1
 go_wp2_with fail
 refine HC.out.mono ?_;rintro e w2 ⟨v,Z,rfl,h1,h2,h3,h4,h5⟩
 have H1:=hid h1
 have H2:=hid h2
 have H3:=hid h3
 have H4:=hid (own_base h4 B1.out.size)
 have H5:=hid (btr B1.out h5)
 clear h1 h2 h3 h4 h5
 go_wp2
 go_ret
 exact ⟨v,Z,rfl,H1.out,H2.out,H3.out,H4.out,H5.out⟩
theorem OwZ.snoc {w w':World} {B:Nat} {v v':Value} {Z:List Z5} (hown:OwZ w B v Z) (z:Z5) (ho:Ow w B z.2.2.1 z.2.2.2.1) (hv:Dj v z.2.2.1) (hd:∀ y∈Z,Dj y.2.2.1 z.2.2.1) (o:Obj)
  (hrow:w'.ownsRow B 86 4 v' (Z.length+1) (zc Z++zc [z])) (hg:(w.alloc o).grownBy w' v.ownBlock) (hloc:v'.ownBlock=v.ownBlock∨v'.ownBlock=some (w.alloc o).heap.size):OwZ w' B v' (Z++[z]):=by
 have hkeep:∀ {x:Value} {l:List R3},Ow w B x l→Dj v x→Ow w' B x l:=fun hx hdx=>by
  have h1:=hx.alloc o
  refine World.ownsRow.kept h1 hg ?_
  cases hxb:Value.ownBlock _ with
  | none=>exact Or.inl rfl
  | some j=>exact Or.inr (fun e=>hdx j e.symm hxb)
 have hoff:∀ {x:Value} {l:List R3},Ow w B x l→Dj v x→Dj v' x:=fun hx hdx j hj hj'=>by
  rcases hloc with h | h
  ·exact hdx j (by rw [← h];exact hj) hj'
  ·rw [h] at hj
   have:=(hx.lt j hj').2
   simp at hj
   omega
 refine ⟨?_,fun y hy=>?_,fun y hy=>?_,?_⟩
 ·rw [zc_app];simpa using hrow
 ·rcases List.mem_append.1 hy with hy | hy
  ·exact hkeep (hown.each y hy) (hown.off y hy)
  ·simp at hy;subst hy;exact hkeep ho hv
 ·rcases List.mem_append.1 hy with hy | hy
  ·exact hoff (hown.each y hy) (hown.off y hy)
  ·simp at hy;subst hy;exact hoff ho hv
 ·rw [List.pairwise_append]
  refine ⟨hown.apart,by simp,?_⟩
  intro x hx y hy
  simp at hy
  subst hy
  exact hd x hx
theorem z_one {z:Z5} {W:World} {B:Nat} (ho:Ow W B z.2.2.1 z.2.2.2.1):∀ u∈zc [z],u.oneCell'=true :=
 zc_one (fun y hy=>by simp at hy;subst hy;obtain ⟨a,c,h,_⟩:=Ow.shape ho;exact ⟨a,_,c,h⟩)
theorem step_append_ml {ops:Array Oper} {o:Oper} {a:Act} {w:World} {K:Act→World→Prop} {Q:Exit→Act→World→Prop} {E:Prop}
  (hg:o.guard=none) (s x:Operand) (hop:o.op=Op.call { callee:=Callee.builtin Builtin.append,args:=#[s,x],argTypes:=#[35,35] })
  (B:Nat) (v:Value) (Z:List Z5) (hs:a.eval s=v) (z:Z5) (hown:OwZ w B v Z) (ho:Ow w B z.2.2.1 z.2.2.2.1) (hv:Dj v z.2.2.1) (hd:∀ y∈Z,Dj y.2.2.1 z.2.2.1)
  (hx:a.eval x=.slice (some ⟨w.heap.size,0,none⟩) 1 1) (hlen:Z.length≤1048576) (hB:B≤w.heap.size)
  (hK:∀ v' w',OwZ w' B v' (Z++[z])→Below B w w'→(w.alloc (.cells #[.int .i64 z.1,.int .i64 z.2.1,z.2.2.1,.string z.2.2.2.2] 86)).grownBy w' v.ownBlock→(∀ j,v'.ownBlock=some j→v.ownBlock=some j∨w.heap.size≤j)→K (a.put o.dst v') w') :
  if Region.wanted o (yielded ops a.tmps)=true then Oper.wp Tryz.prog o a (w.alloc (.cells #[.int .i64 z.1,.int .i64 z.2.1,z.2.2.1,.string z.2.2.2.2] 86)) K Q else E:=by
 have hw:Region.wanted o (yielded ops a.tmps)=true:=by simp [Region.wanted,hg]
 rw [if_pos hw]
 obtain ⟨i0,hi,hz0,hz1,hz2⟩:=info_parts3 info_ml
 obtain ⟨v',w',hr,h2,h3,h4,h5⟩:=run_append_own_at (P:=Tryz.prog) (w.alloc (.cells #[.int .i64 z.1,.int .i64 z.2.1,z.2.2.1,.string z.2.2.2.2] 86)) B 35 o.type 86 i0 _ 4 56 Tryz.underlying35 hi hz0 hz1 hz2 rfl (by decide) v _ _ (hown.row.alloc _) ⟨w.heap.size,0,none⟩ 1 1 (zc [z]) rfl (cells_new4 w z 86) (z_one ho) (by unfold maxLen;omega) (by omega) (by simp;omega)
 unfold Oper.wp execOp
 simp only [hop,resolve,invoke,builtin,Sem.run_bind,Sem.run_pure,Result.andThen_ok,List.map_toArray,List.map_cons,List.map_nil,hs,hx,hr]
 exact hK v' w' (hown.snoc z ho hv hd _ h2 h3 h5) (((Below.refl B w).alloc hB _).grown h3 (by simp;omega) (fun k hk=>(hown.row.lt k hk).1)) h3 (fun j hj=>by
   rcases h5 with h5 | h5
   · exact .inl (by rw [← h5];exact hj)
   · rw [h5] at hj;simp at hj;exact .inr (by omega))
theorem ownZ_empty (W:World) (B:Nat) (hB:B≤W.heap.size):OwZ (W.alloc (.cells #[] 86)) B (.slice (some ⟨W.heap.size,0,none⟩) 0 0) [] :=
 ⟨World.ownsRow_lit (base:=B) (e:=86) (size:=4) W #[] 0 hB (by unfold maxLen;omega) rfl,(fun z hz=>by cases hz),(fun z hz=>by cases hz),List.Pairwise.nil⟩
theorem Is.all {lo hi:Nat} {W:World} {ad:Addr} {G:List Int} (h:Is lo hi W (some ad) G):∀ j u,(G.map (Value.int .i64))[j]?=some u→W.cell? (ad.add j)=some u:=by
 intro j u hu
 have hj:j<G.length:=by have:=(List.getElem?_eq_some_iff.1 hu).1;simpa using this
 obtain ⟨k,o,h1,_,_,hc⟩:=h.2 j hj
 simp only [Option.some.injEq] at h1
 subst h1
 rw [addr_add,hc]
 rw [List.getElem?_map,List.getElem?_eq_getElem hj] at hu
 simpa using hu
theorem int_one (G:List Int):∀ u∈G.map (Value.int .i64),u.oneCell'=true:=by
 intro u hu
 obtain ⟨x,_,rfl⟩:=List.mem_map.1 hu
 rfl
theorem ownI_empty (W:World) (B:Nat) (hB:B≤W.heap.size):OwI (W.alloc (.cells #[] 3)) B (.slice (some ⟨W.heap.size,0,none⟩) 0 0) [] :=
 World.ownsRow_lit (base:=B) (e:=3) (size:=1) W #[] 0 hB (by unfold maxLen;omega) rfl
theorem info_int:(Tryz.prog.info? 3).map (fun i=>(i.zero,i.size,i.bytes))=some (some (.int .i64 0),1,8):=by kernel_rfl
set_option maxHeartbeats 400000 in
set_option maxRecDepth 100000 in
theorem cloneI_any (lo hh:Nat) (ao:Option Addr) (n cap:Nat) (G:List Int) (w:World) (hl:G.length=n) (hn:n≤1048576) (hr:Is lo hh w ao G) (h0:ao=none→cap=0) :
  Calls Tryz.prog 114 #[.slice ao n cap] w fun e w'=>∃ v,e=.returned v∧OwI w' w.heap.size v G∧Below w.heap.size w w':=by
 have HR:=hid hr
 have HL:=hid hl
 have HN:=hid hn
 clear hr hl hn
 cases ao with
 | none =>
  have hn0:n=0:=by
   by_cases h:0<n
   ·obtain ⟨_,_,h1,_⟩:=HR.out.2 0 (by rw [HL.out];exact h)
    cases h1
   ·omega
  subst hn0
  obtain rfl:=h0 rfl
  have hle:G=[]:=List.eq_nil_of_length_eq_zero HL.out
  subst hle
  clear h0
  have hnil:∀ W,(binOp .eql 25 (.slice none 0 0) (.slice none 0 0)).run Tryz.prog W=.ok (.bool true) W:=fun W=>Lib.run_eql_slice_nil_nil W 0 0 Tryz.underlying25
  go_enter Tryz.func114,Tryz.ntmps114
  go_wp2
  go_ret
  exact ⟨_,rfl,⟨rfl,.inl ⟨rfl,rfl⟩⟩,bre _⟩
 | some ad =>
  clear h0
  obtain ⟨i0,hi,hz0,hz1,hz2⟩:=info_parts3 info_int
  have HSRC:Hid (∀ j u,(G.map (Value.int .i64))[j]?=some u→(w.alloc (.cells #[] 3)).cell? (ad.add j)=some u):=(HR.out.later (bpush (bre _) _)).all
  have hnil:∀ W,(binOp .eql 25 (.slice (some ad) n cap) (.slice none 0 0)).run Tryz.prog W=.ok (.bool false) W:=fun W=>Lib.run_eql_slice_some_nil W ad n cap Tryz.underlying25
  go_enter Tryz.func114,Tryz.ntmps114
  go_wp2_with (at_builtin;refine wpList_append_own _ rfl (.tmp 5) (.tmp 6) 25 rfl w.heap.size 3 i0 _ 1 8 Tryz.underlying25 hi hz0 hz1 hz2 rfl (by decide) _ 0 [] (by rfl) (ownI_empty w _ (Nat.le_refl _)) ad n cap (G.map (Value.int .i64)) (by rfl) (by rw [List.length_map,HL.out,Nat.mul_one]) HSRC.out (int_one G) (by have:=HN.out;unfold maxLen;omega) (by have:=HN.out;omega) (by simp) ?_;intro v1 w1 hown1 hg1 _)
  go_ret
  exact ⟨_,rfl,by simpa [OwI,HL.out] using hown1,(bpush (bre _) _).grown hg1 (by simp) (by intro k hk;simp [Value.ownBlock] at hk;omega)⟩
end Go.Proofs.YtkbecgcbheopnaaGreat
