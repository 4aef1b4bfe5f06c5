/- Bany, Bdraw, Btwo. -/
import Derived.Test.YtdkedgedkgabnaaGreatDoorX26
namespace Go.Proofs.YtdkedgedkgabnaaGreatDoor
open Go.RowKit Go.ChangeMaps
set_option maxHeartbeats 16000000
set_option maxRecDepth 100000
theorem Is.wide {lo hi lo' hi':Nat} {W:World} {a:Option Addr} {G:List Int} (h:Is lo hi W a G) (h1:lo'≤lo) (h2:hi≤hi') (h3:hi'≤W.heap.size):Is lo' hi' W a G:=by
 refine ⟨h3,fun i hi'=>?_⟩;obtain ⟨k,o,e1,e2,e3,e4⟩:=h.2 i hi';exact ⟨k,o,e1,by omega,by omega,e4⟩
structure Bg (W:World) (lo hi:Nat) (nm:ByteArray) (ma:Option Addr) (mn mc:Nat) (ga:Option Addr) (gn gc:Nat) (L:List M4) (G:List Int):Prop where
 nmz:nm.size≤20
 len:L.length=mn
 most:mn≤20
 sm:Sm L
 mails:Ms lo hi W ma L
 m0:ma=none→mc=0
 glen:G.length=gn
 gmost:gn≤50
 gone:Is lo hi W ga G
 g0:ga=none→gc=0
section
variable {W W':World} {lo hi:Nat} {nm:ByteArray} {ma:Option Addr} {mn mc:Nat} {ga:Option Addr} {gn gc:Nat} {L:List M4} {G:List Int}
theorem Bg.same (h:Bg W lo hi nm ma mn mc ga gn gc L G) (hs:hi≤W'.heap.size) (hk:∀ k,lo≤k→k<hi→W'.heap[k]?=W.heap[k]?):Bg W' lo hi nm ma mn mc ga gn gc L G :=
 ⟨h.nmz,h.len,h.most,h.sm,h.mails.same hs hk,h.m0,h.glen,h.gmost,h.gone.same hs hk,h.g0⟩
theorem Bg.later (h:Bg W lo hi nm ma mn mc ga gn gc L G) (hb:Below W.heap.size W W'):Bg W' lo hi nm ma mn mc ga gn gc L G :=
 h.same (Nat.le_trans h.mails.1 hb.size) (fun k _ hk=>hb.block k (Nat.lt_of_lt_of_le hk h.mails.1))
theorem Bg.far {k:Nat} (h:Bg W lo hi nm ma mn mc ga gn gc L G) (hg:W.grownBy W' (some k)) (hk:k<lo∨hi≤k):Bg W' lo hi nm ma mn mc ga gn gc L G :=
 h.same (Nat.le_trans h.mails.1 hg.size) (fun j h1 h2=>hg.block j (Nat.lt_of_lt_of_le h2 h.mails.1) (fun e=>by simp only [Option.some.injEq] at e;omega))
theorem Bg.wide {lo' hi':Nat} (h:Bg W lo hi nm ma mn mc ga gn gc L G) (h1:lo'≤lo) (h2:hi≤hi') (h3:hi'≤W.heap.size):Bg W lo' hi' nm ma mn mc ga gn gc L G :=
 ⟨h.nmz,h.len,h.most,h.sm,h.mails.wide h1 h2 h3,h.m0,h.glen,h.gmost,h.gone.wide h1 h2 h3,h.g0⟩
theorem Bg.name {nm':ByteArray} (h:Bg W lo hi nm ma mn mc ga gn gc L G) (hn:nm'.size≤20):Bg W lo hi nm' ma mn mc ga gn gc L G :=
 ⟨hn,h.len,h.most,h.sm,h.mails,h.m0,h.glen,h.gmost,h.gone,h.g0⟩
end
theorem gr_new {w W W':World} {cb:Nat} {r:Option Nat} (h:w.grownBy W (some cb)) (hg:W.grownBy W' r) (hr:∀ j,r=some j→w.heap.size≤j):w.grownBy W' (some cb) :=
 ⟨hg.os.trans h.os,hg.tape.trans h.tape,hg.output.trans h.output,Nat.le_trans h.size hg.size,fun i hi hne=>(hg.block i (Nat.lt_of_lt_of_le hi h.size) (fun e=>by have:=hr i e.symm;omega)).trans (h.block i hi hne)⟩
theorem Cur.grownr {W W':World} {cb n cap:Nat} {ao:Option Addr} {r:Option Nat} (h:Cur W cb ao n cap) (hg:W.grownBy W' r) (hr:some cb≠r):Cur W' cb ao n cap:=by
 obtain ⟨i,x,h1,h2⟩:=h;exact ⟨i,x,h1,(hg.block cb (Array.getElem?_eq_some_iff.1 h2).1 hr).trans h2⟩
structure As (w W:World) (cb:Nat) (ao:Option Addr) (n cap kb hi:Nat) (g:Int) (nm:ByteArray) (t b nx:Int) (ma:Option Addr) (mn mc:Nat) (ga:Option Addr) (gn gc:Nat) (L:List M4) (G:List Int):Prop where
 res:Bx W w.heap.size 38 0 ⟨#[]⟩ 0 0 0 (.slice none 0 0) (.slice none 0 0)
 box:Bx W kb 38 g nm t b nx (.slice ma mn mc) (.slice ga gn gc)
 bg:Bg W (w.heap.size+1) hi nm ma mn mc ga gn gc L G
 cur:Cur W cb ao n cap
 gr:w.grownBy W (some cb)
 lo:w.heap.size<kb
 hi:cb<w.heap.size
section
variable {w W W':World} {cb:Nat} {ao:Option Addr} {n cap kb hi:Nat} {g:Int} {nm:ByteArray} {t b nx:Int} {ma:Option Addr} {mn mc:Nat} {ga:Option Addr} {gn gc:Nat} {L:List M4} {G:List Int}
theorem As.drew (h:As w W cb ao n cap kb hi g nm t b nx ma mn mc ga gn gc L G):As w W.drew cb ao n cap kb hi g nm t b nx ma mn mc ga gn gc L G:=⟨h.res,h.box,h.bg.later (bdr (bre _)),h.cur,gdr h.gr,h.lo,h.hi⟩
theorem As.later (h:As w W cb ao n cap kb hi g nm t b nx ma mn mc ga gn gc L G) (hb:Below W.heap.size W W'):As w W' cb ao n cap kb hi g nm t b nx ma mn mc ga gn gc L G :=
 ⟨h.res.later hb,h.box.later hb,h.bg.later hb,h.cur.later hb h.cur.lt,only_add h.gr (hb.mono h.gr.size),h.lo,h.hi⟩
theorem As.draw (h:As w W cb ao n cap kb hi g nm t b nx ma mn mc ga gn gc L G) (hg:W.grownBy W' (some cb)) (hc:Cur W' cb ao n cap):As w W' cb ao n cap kb hi g nm t b nx ma mn mc ga gn gc L G:=by
 have h1:=h.lo;have h2:=h.hi;exact ⟨h.res.far hg (by omega),h.box.far hg (by omega),h.bg.far hg (.inl (by omega)),hc,only_trans h.gr hg,h.lo,h.hi⟩
theorem As.turn {g':Int} {nm':ByteArray} {t' b' nx':Int} (h:As w W cb ao n cap kb hi g nm t b nx ma mn mc ga gn gc L G) (hk:hi≤kb) (hg:W.grownBy W' (some kb)) (hx:Bx W' kb 38 g' nm' t' b' nx' (.slice ma mn mc) (.slice ga gn gc)) (hn:nm'.size≤20):As w W' cb ao n cap kb hi g' nm' t' b' nx' ma mn mc ga gn gc L G:=by
 have h1:=h.lo;have h2:=h.hi;exact ⟨h.res.far hg (by omega),hx,(h.bg.far hg (.inr hk)).name hn,h.cur.grownr hg (fun e=>by simp only [Option.some.injEq] at e;omega),gr_new h.gr hg (fun j e=>by simp only [Option.some.injEq] at e;omega),h.lo,h.hi⟩
end
def Any6 (cb:Nat) (ao:Option Addr) (n cap:Nat) (w:World) (e:Ending) (w':World):Prop :=
 ∃ (g:Int) (nm:ByteArray) (t b nx:Int) (ma:Option Addr) (mn mc:Nat) (ga:Option Addr) (gn gc:Nat) (L:List M4) (G:List Int) (hi:Nat),e=.returned (.agg #[.int .i64 g,.string nm,.int .i64 t,.int .i64 b,.int .i64 nx,.slice ma mn mc,.slice ga gn gc])∧Bg w' (w.heap.size+1) hi nm ma mn mc ga gn gc L G∧Cur w' cb ao n cap∧w.grownBy w' (some cb)
theorem any6_end {w W:World} {cb:Nat} {ao:Option Addr} {n cap kb hi:Nat} {g:Int} {nm:ByteArray} {t b nx:Int} {ma:Option Addr} {mn mc:Nat} {ga:Option Addr} {gn gc:Nat} {L:List M4} {G:List Int} {a:Act} (h:As w W cb ao n cap kb hi g nm t b nx ma mn mc ga gn gc L G)
  (hres:∀ W',W'=(((((((W.setCell ⟨w.heap.size,0,none⟩ (.int .i64 g)).setCell ⟨w.heap.size,1,none⟩ (.string nm)).setCell ⟨w.heap.size,2,none⟩ (.int .i64 t)).setCell ⟨w.heap.size,3,none⟩ (.int .i64 b)).setCell ⟨w.heap.size,4,none⟩ (.int .i64 nx)).setCell ⟨w.heap.size,5,none⟩ (.slice ma mn mc)).setCell ⟨w.heap.size,6,none⟩ (.slice ga gn gc))→(W'.cell? ⟨w.heap.size,0,none⟩=some (.int .i64 g)∧W'.cell? ⟨w.heap.size,1,none⟩=some (.string nm)∧W'.cell? ⟨w.heap.size,2,none⟩=some (.int .i64 t)∧W'.cell? ⟨w.heap.size,3,none⟩=some (.int .i64 b)∧W'.cell? ⟨w.heap.size,4,none⟩=some (.int .i64 nx)∧W'.cell? ⟨w.heap.size,5,none⟩=some (.slice ma mn mc)∧W'.cell? ⟨w.heap.size,6,none⟩=some (.slice ga gn gc))→(results Tryz.f45 a.tmps).run Tryz.prog W'=.ok (.agg #[.int .i64 g,.string nm,.int .i64 t,.int .i64 b,.int .i64 nx,.slice ma mn mc,.slice ga gn gc]) W') (hdef:a.defers=[]:=by rfl) :
  bodyPost Tryz.prog Tryz.f45 (fun e w'=>Any6 cb ao n cap w e w') Exit.ret a (((((((W.setCell ⟨w.heap.size,0,none⟩ (.int .i64 g)).setCell ⟨w.heap.size,1,none⟩ (.string nm)).setCell ⟨w.heap.size,2,none⟩ (.int .i64 t)).setCell ⟨w.heap.size,3,none⟩ (.int .i64 b)).setCell ⟨w.heap.size,4,none⟩ (.int .i64 nx)).setCell ⟨w.heap.size,5,none⟩ (.slice ma mn mc)).setCell ⟨w.heap.size,6,none⟩ (.slice ga gn gc)):=by
 have h1:=h.lo;have h2:=h.hi;have e2:=set7_grown W w.heap.size g nm t b nx (.slice ma mn mc) (.slice ga gn gc);have d1:=(h.res.set7 g nm t b nx (.slice ma mn mc) (.slice ga gn gc)).cells;unfold set7 at d1 e2;exact bodyPost_ret (hres _ rfl d1) hdef ⟨g,nm,t,b,nx,ma,mn,mc,ga,gn,gc,L,G,hi,rfl,h.bg.far e2 (.inl (Nat.lt_succ_self _)),h.cur.grownr e2 (fun e=>by simp only [Option.some.injEq] at e;omega),gr_new h.gr e2 (fun j e=>by simp only [Option.some.injEq] at e;omega)⟩
theorem ms_row {W:World} {B lo:Nat} {v:Value} {Z:List Z5} (row:W.ownsRow B 78 4 v Z.length (zc Z)) (hlo:lo≤B) (hf:∀ z∈Z,∃ a c,z.2.2.1=.slice a z.2.2.2.1.length c∧Rb lo W.heap.size W a z.2.2.2.1∧(a=none→c=0)) :
  ∃ a c,v=.slice a Z.length c∧(a=none→c=0)∧Ms lo W.heap.size W a (Z.map md):=by
 rcases row.2 with ⟨h1,h2⟩ | ⟨g,cap,cur,h1,h2,h3,h4,h5,h6,h7⟩
 ·refine ⟨none,0,by rw [h1,h2],fun _=>rfl,Nat.le_refl _,fun i hi=>?_⟩
  rw [List.length_map] at hi
  omega
 subst h1;refine ⟨_,_,rfl,fun e=>by simp at e,Nat.le_refl _,fun i hi=>?_⟩;rw [List.length_map] at hi;have e:=zc_at Z i hi;obtain ⟨fa,fc,hf',hr,h0⟩:=hf Z[i] (List.getElem_mem hi);rw [hf'] at e;refine ⟨g,0,fa,fc,rfl,by omega,(Array.getElem?_eq_some_iff.1 h3).1,?_,?_,h0⟩
 ·simp only [Nat.zero_add,List.getElem_map]
  exact ⟨(row.cellAt _ (by omega)).trans e.1,(row.cellAt _ (by omega)).trans e.2.1,(row.cellAt _ (by omega)).trans e.2.2.1,(row.cellAt _ (by omega)).trans e.2.2.2⟩
 simpa [md] using hr
theorem Dl.rb {W:World} {B n c:Nat} {a:Option Addr} {l:List R3} (h:Dl W B (.slice a n c) l):n=l.length∧l.length≤4∧Rb B W.heap.size W a l∧(a=none→c=0):=by
 obtain ⟨a',c',h1,h2,h3,h4,h5,h6⟩:=h;simp only [Value.slice.injEq] at h1;obtain ⟨rfl,rfl,rfl⟩:=h1;refine ⟨rfl,h2,fun hn=>?_,h4⟩;obtain ⟨k,o,e1,e2,e3⟩:=h5 hn;subst e1;exact ⟨k,o,rfl,h6 _ rfl,e2,e3⟩
theorem step_append_mg {ops:Array Oper} {o:Oper} {a:Act} {w:World} {K:Act→World→Prop} {Q:Exit→Act→World→Prop} {E:Prop}
  (hg:o.guard=none) (s x:Operand) (hop:o.op=Op.call { callee:=Callee.builtin Builtin.append,args:=#[s,x],argTypes:=#[36,36] })
  (B:Nat) (v:Value) (Z:List Z5) (hs:a.eval s=v) (z:Z5) (hown:w.ownsRow B 78 4 v Z.length (zc Z)) (hz:∃ a k c,z.2.2.1=.slice a k c)
  (hx:a.eval x=.slice (some ⟨w.heap.size,0,none⟩) 1 1) (hlen:Z.length≤1048576) (hB:B≤w.heap.size)
  (hK:∀ v' w',w'.ownsRow B 78 4 v' (Z++[z]).length (zc (Z++[z]))→(w.alloc (.cells #[.int .i64 z.1,.int .i64 z.2.1,z.2.2.1,.string z.2.2.2.2] 78)).grownBy w' v.ownBlock→(∀ j,v'.ownBlock=some j→v.ownBlock=some j∨w.heap.size<j)→K (a.put o.dst v') w') :
  if Region.wanted o (yielded ops a.tmps)=true then Oper.wp Tryz.prog o a (w.alloc (.cells #[.int .i64 z.1,.int .i64 z.2.1,z.2.2.1,.string z.2.2.2.2] 78)) K Q else E:=by
 have hw:Region.wanted o (yielded ops a.tmps)=true:=by simp [Region.wanted,hg]
 rw [if_pos hw];obtain ⟨i0,hi,hz0,hz1,hz2⟩:=info_parts3 info_ml;obtain ⟨v',w',hr,h2,h3,h4,h5⟩:=run_append_own_at (P:=Tryz.prog) (w.alloc (.cells #[.int .i64 z.1,.int .i64 z.2.1,z.2.2.1,.string z.2.2.2.2] 78)) B 36 o.type 78 i0 _ 4 56 Tryz.underlying36 hi hz0 hz1 hz2 rfl (by decide) v _ _ (hown.alloc _) ⟨w.heap.size,0,none⟩ 1 1 (zc [z]) rfl (cells_new4 w z 78) (zc_one (fun y hy=>by simp at hy;subst hy;exact hz)) (by unfold maxLen;omega) (by omega) (by simp;omega);unfold Oper.wp execOp;simp only [hop,resolve,invoke,builtin,Sem.run_bind,Sem.run_pure,Result.andThen_ok,List.map_toArray,List.map_cons,List.map_nil,hs,hx,hr]
 exact hK v' w' (by rw [zc_app];simpa using h2) h3 (fun j hj=>by
   rcases h5 with h5 | h5
   · exact .inl (by rw [← h5];exact hj)
   · rw [h5] at hj;simp at hj;exact .inr (by omega))
theorem wpList_append_ig (w:World) {ops:Array Oper} {rest:List Oper} {o:Oper} {a:Act} {Q:Exit→Act→World→Prop} (hgd:o.guard=none) (s x:Operand)
  (ho:o.op=.call { callee:=.builtin .append,args:=#[s,x],argTypes:=#[25,25] })
  (base:Nat) (v:Value) (bs:List Int) (hs:a.eval s=v) (hown:OwI w base v bs) (n:Int)
  (hx:a.eval x=.slice (some ⟨w.heap.size,0,none⟩) 1 1) (hlen:bs.length≤1048576) (hbase:base≤w.heap.size)
  (h:∀ v' w',OwI w' base v' (bs++[n])→(w.alloc (.cells #[.int .i64 n] 3)).grownBy w' v.ownBlock→(∀ j,v'.ownBlock=some j→v.ownBlock=some j∨w.heap.size<j)→wpList Tryz.prog ops Q rest (a.put o.dst v') w') :
  wpList Tryz.prog ops Q (o::rest) a (w.alloc (.cells #[.int .i64 n] 3)):=by
 obtain ⟨i0,hi,hz0,hz1,hz2⟩:=info_parts3 info_int;refine wpList_append_own_at _ hgd s x 25 ho base 3 i0 (.int .i64 0) 1 8 Tryz.underlying25 hi hz0 hz1 hz2 rfl (by decide) v _ _ hs (hown.alloc _) ⟨w.heap.size,0,none⟩ 1 1 [.int .i64 n] hx rfl (cell_one_int _ _ _) (by intro u hu;simp at hu;subst hu;rfl) (by unfold maxLen;omega) (by omega) (by simp;omega) ?_;intro v' w' hown' hg _ h5
 exact h v' w' (by simpa [OwI] using hown') hg (fun j hj=>by
   rcases h5 with h5 | h5
   · exact .inl (by rw [← h5];exact hj)
   · rw [h5] at hj;simp at hj;exact .inr (by omega))
theorem own_at {W W':World} {B e size n:Nat} {x:Value} {xs:List Value} (ho:W.ownsRow B e size x n xs) (hk:∀ j,x.ownBlock=some j→W'.heap[j]?=W.heap[j]?):W'.ownsRow B e size x n xs:=by
 refine ⟨ho.1,ho.2.imp id ?_⟩;rintro ⟨g,cap,cur,h1,h2,h3,h4⟩;exact ⟨g,cap,cur,h1,h2,(hk g (by rw [h1];rfl)).trans h3,h4⟩
theorem As.more {w w4 W W':World} {cb:Nat} {ao:Option Addr} {n cap kb hi B lo:Nat} {g:Int} {nm:ByteArray} {t b nx:Int} {ma:Option Addr} {mn mc:Nat} {ga:Option Addr} {gn gc:Nat} {L:List M4} {G:List Int} {a7:Option Addr} {n7 c7:Nat} {z:Z5} {Z:List Z5} (h:As w W cb ao n cap kb hi g nm t b nx ma mn mc ga gn gc L G) (h4:w4.heap.size=kb) (hw4:w4.grownBy W (some cb)) (hZ:Z.map md=L) (hz4:OwZ w4 B (.slice ma mn mc) Z) (hi4:OwI w4 B (.slice ga gn gc) G) (hdj:Dj (.slice ga gn gc) (.slice ma mn mc)) (hB:w.heap.size<B)
  (hz:Dl W lo z.2.2.1 z.2.2.2.1) (hlo:kb<lo) (hzt:z.2.2.2.2.size≤100) (hm:mn≤10) (row:W'.ownsRow B 78 4 (.slice a7 n7 c7) (Z++[z]).length (zc (Z++[z]))) (hg:(W.alloc (.cells #[.int .i64 z.1,.int .i64 z.2.1,z.2.2.1,.string z.2.2.2.2] 78)).grownBy W' (Value.slice ma mn mc).ownBlock) (hl:∀ j,(Value.slice a7 n7 c7).ownBlock=some j→(Value.slice ma mn mc).ownBlock=some j∨W.heap.size<j) :
  As w (W'.setCell ⟨kb,5,none⟩ (.slice a7 n7 c7)) cb ao n cap kb (W'.setCell ⟨kb,5,none⟩ (.slice a7 n7 c7)).heap.size g nm t b nx a7 n7 c7 ga gn gc (L++[md z]) G:=by
 have h1:=h.lo;have h2:=h.hi;have h3:=h.box.lt;have hown:=hz4.grown hw4 (by omega);have hoi:=OwI.grown hi4 hw4 (by omega)
 have hlt:∀ j,(Value.slice ma mn mc).ownBlock=some j→j<kb:=fun j hj=>by have:=(hz4.row.lt j hj).2;omega
 have hlg:∀ j,(Value.slice ga gn gc).ownBlock=some j→j<kb:=fun j hj=>by have:=(hi4.lt j hj).2;omega
 have hblk:∀ j,j<W.heap.size→(Value.slice ma mn mc).ownBlock≠some j→W'.heap[j]?=W.heap[j]?:=fun j hj hne=>(hg.block j (by simp;omega) (fun e=>hne e.symm)).trans (Below.heap_alloc W _ j hj);have hblk2:∀ j,j<W.heap.size→(Value.slice ma mn mc).ownBlock≠some j→j≠kb→(W'.setCell ⟨kb,5,none⟩ (.slice a7 n7 c7)).heap[j]?=W.heap[j]?:=fun j hj hne hjk=>(heap_setCell_other W' ⟨kb,5,none⟩ j _ hjk).trans (hblk j hj hne)
 have hsz:(W'.setCell ⟨kb,5,none⟩ (.slice a7 n7 c7)).heap.size=W'.heap.size:=by simp [World.setCell]
 have hszW:W.heap.size<W'.heap.size:=by have:=hg.size;simp at this;omega
 have hobm:∀ j,(Value.slice ma mn mc).ownBlock=some j→B≤j:=fun j hj=>(hown.row.lt j hj).1;have hbox':Bx W' kb 38 g nm t b nx (.slice ma mn mc) (.slice ga gn gc):=(hblk kb h3 (fun e=>by have:=hlt kb e;omega)).trans h.box;have hset:W'.grownBy (W'.setCell ⟨kb,5,none⟩ (.slice a7 n7 c7)) (some kb):=only_set
 have hrow:=own_at (W':=W'.setCell ⟨kb,5,none⟩ (.slice a7 n7 c7)) row (fun j hj=>heap_setCell_other W' ⟨kb,5,none⟩ j _ (fun e=>by
   simp only at e
   rcases hl j hj with hj | hj
   · have:=hlt j hj;omega
   · omega))
 have hgo:OwI (W'.setCell ⟨kb,5,none⟩ (.slice a7 n7 c7)) B (.slice ga gn gc) G:=own_at hoi (fun j hj=>hblk2 j (hoi.lt j hj).2 (fun e=>hdj j hj e) (fun e=>by have:=hlg j hj;omega))
 have hzl:∃ a c,z.2.2.1=.slice a z.2.2.2.1.length c∧Rb lo W.heap.size W a z.2.2.2.1∧(a=none→c=0)∧z.2.2.2.1.length≤4:=by
  obtain ⟨a',c',e1,e2⟩:=hz;have:=Dl.rb (W:=W) (B:=lo) (a:=a') (n:=z.2.2.2.1.length) (c:=c') (l:=z.2.2.2.1) ⟨a',c',rfl,e2⟩;exact ⟨a',c',e1,this.2.2.1,this.2.2.2,this.2.1⟩
 obtain ⟨za,zc',hzs,q3,q4,q5⟩:=hzl
 obtain ⟨a,c,e1,e2,e3⟩:=ms_row (lo:=w.heap.size+1) hrow (by omega) (fun y hy=>by
   rcases List.mem_append.1 hy with hy | hy
   · have ho:Ow (W'.setCell ⟨kb,5,none⟩ (.slice a7 n7 c7)) B y.2.2.1 y.2.2.2.1:=own_at (hown.each y hy) (fun j hj=>hblk2 j ((hown.each y hy).lt j hj).2 (fun e=>hown.off y hy j e hj) (fun e=>by have:=((hz4.each y hy).lt j hj).2;omega))
     obtain ⟨a,c,e1,e2,e3⟩:=Ow.rb ho
     exact ⟨a,c,e1,e2.wide (by omega) (Nat.le_refl _),e3⟩
   · simp at hy
     subst hy
     refine ⟨_,_,hzs,?_,q4⟩
     refine Rb.wide (lo:=lo) (hi:=W.heap.size) ?_ (by omega) (by omega)
     exact q3.same (fun k hk1 hk2=>hblk2 k hk2 (fun e=>by have:=hlt k e;omega) (by omega)))
 simp only [Value.slice.injEq] at e1;obtain ⟨rfl,rfl,rfl⟩:=e1
 have hlen:Z.length=mn:=by rw [← h.bg.len,← hZ,List.length_map]
 have hlen2:(Z++[z]).length=mn+1:=by rw [List.length_append,hlen];rfl
 have hmap:(Z++[z]).map md=L++[md z]:=by rw [List.map_append,hZ];rfl
 rw [hmap] at e3;refine ⟨?_,hbox'.s5 _,⟨h.bg.nmz,by rw [← hmap,List.length_map],by omega,?_,e3,e2,h.bg.glen,h.bg.gmost,((OwI.is hgo).2).wide (by omega) (Nat.le_refl _) (Nat.le_refl _),h.bg.g0⟩,?_,?_,h1,h2⟩
 ·exact Bx.far ((hblk w.heap.size h.res.lt (fun e=>by have:=hobm _ e;omega)).trans h.res) hset (by omega)
 ·intro m hmm
  rcases List.mem_append.1 hmm with hmm | hmm
  ·exact h.bg.sm m hmm
  simp at hmm
  subst hmm;exact ⟨by show z.2.2.2.1.length≤_;omega,by show z.2.2.2.2.size≤_;omega⟩
 ·obtain ⟨i,x,p1,p2⟩:=h.cur
  exact ⟨i,x,p1,(hblk2 cb h.cur.lt (fun e=>by have:=hobm _ e;omega) (by omega)).trans p2⟩
 refine gr_new (gr_new (gal h.gr _) hg (fun j e=>?_)) hset (fun j e=>by simp only [Option.some.injEq] at e;omega);have:=hobm j e
 omega
theorem As.moreG {w w4 W W':World} {cb:Nat} {ao:Option Addr} {n cap kb hi B:Nat} {g:Int} {nm:ByteArray} {t b nx:Int} {ma:Option Addr} {mn mc:Nat} {ga:Option Addr} {gn gc:Nat} {L:List M4} {G:List Int} {a7:Option Addr} {n7 c7:Nat} {x:Int} {Z:List Z5} (h:As w W cb ao n cap kb hi g nm t b nx ma mn mc ga gn gc L G) (h4:w4.heap.size=kb) (hw4:w4.grownBy W (some cb)) (hZ:Z.map md=L) (hz4:OwZ w4 B (.slice ma mn mc) Z) (hi4:OwI w4 B (.slice ga gn gc) G) (hdj:Dj (.slice ga gn gc) (.slice ma mn mc)) (hdz:∀ z∈Z,Dj (.slice ga gn gc) z.2.2.1) (hB:w.heap.size<B)
  (hm:gn≤40) (row:OwI W' B (.slice a7 n7 c7) (G++[x])) (hg:(W.alloc (.cells #[.int .i64 x] 3)).grownBy W' (Value.slice ga gn gc).ownBlock) (hl:∀ j,(Value.slice a7 n7 c7).ownBlock=some j→(Value.slice ga gn gc).ownBlock=some j∨W.heap.size<j) :
  As w (W'.setCell ⟨kb,6,none⟩ (.slice a7 n7 c7)) cb ao n cap kb (W'.setCell ⟨kb,6,none⟩ (.slice a7 n7 c7)).heap.size g nm t b nx ma mn mc a7 n7 c7 L (G++[x]):=by
 have h1:=h.lo;have h2:=h.hi;have h3:=h.box.lt;have hown:=hz4.grown hw4 (by omega);have hoi:=OwI.grown hi4 hw4 (by omega)
 have hlt:∀ j,(Value.slice ma mn mc).ownBlock=some j→j<kb:=fun j hj=>by have:=(hz4.row.lt j hj).2;omega
 have hlg:∀ j,(Value.slice ga gn gc).ownBlock=some j→j<kb:=fun j hj=>by have:=(hi4.lt j hj).2;omega
 have hblk:∀ j,j<W.heap.size→(Value.slice ga gn gc).ownBlock≠some j→W'.heap[j]?=W.heap[j]?:=fun j hj hne=>(hg.block j (by simp;omega) (fun e=>hne e.symm)).trans (Below.heap_alloc W _ j hj);have hblk2:∀ j,j<W.heap.size→(Value.slice ga gn gc).ownBlock≠some j→j≠kb→(W'.setCell ⟨kb,6,none⟩ (.slice a7 n7 c7)).heap[j]?=W.heap[j]?:=fun j hj hne hjk=>(heap_setCell_other W' ⟨kb,6,none⟩ j _ hjk).trans (hblk j hj hne)
 have hsz:(W'.setCell ⟨kb,6,none⟩ (.slice a7 n7 c7)).heap.size=W'.heap.size:=by simp [World.setCell]
 have hszW:W.heap.size<W'.heap.size:=by have:=hg.size;simp at this;omega
 have hobm:∀ j,(Value.slice ga gn gc).ownBlock=some j→B≤j:=fun j hj=>(hoi.lt j hj).1;have hbox':Bx W' kb 38 g nm t b nx (.slice ma mn mc) (.slice ga gn gc):=(hblk kb h3 (fun e=>by have:=hlg kb e;omega)).trans h.box;have hset:W'.grownBy (W'.setCell ⟨kb,6,none⟩ (.slice a7 n7 c7)) (some kb):=only_set
 have hgo:OwI (W'.setCell ⟨kb,6,none⟩ (.slice a7 n7 c7)) B (.slice a7 n7 c7) (G++[x]):=own_at row (fun j hj=>heap_setCell_other W' ⟨kb,6,none⟩ j _ (fun e=>by
   simp only at e
   rcases hl j hj with hj | hj
   · have:=hlg j hj;omega
   · omega))
 have hzz:OwZ (W'.setCell ⟨kb,6,none⟩ (.slice a7 n7 c7)) B (.slice ma mn mc) Z:=hown.kept (by rw [hsz];omega)
  (fun j hj=>hblk2 j (hown.row.lt j hj).2 (fun e=>hdj j e hj) (fun e=>by have:=hlt j hj;omega))
  (fun z hz j hj=>hblk2 j ((hown.each z hz).lt j hj).2 (fun e=>hdz z hz j e hj) (fun e=>by have:=((hz4.each z hz).lt j hj).2;omega))
 have hn7:=(OwI.is hgo).1
 have hlg2:(G++[x]).length=gn+1:=by rw [List.length_append,h.bg.glen];rfl
 refine ⟨?_,hbox'.s6 _,⟨h.bg.nmz,h.bg.len,h.bg.most,h.bg.sm,by rw [← hZ];exact hzz.ms.2.wide (by omega) (Nat.le_refl _) (Nat.le_refl _),h.bg.m0,hn7.symm,by omega,((OwI.is hgo).2).wide (by omega) (Nat.le_refl _) (Nat.le_refl _),own_none hgo⟩,?_,?_,h1,h2⟩
 ·exact Bx.far ((hblk w.heap.size h.res.lt (fun e=>by have:=hobm _ e;omega)).trans h.res) hset (by omega)
 ·obtain ⟨i,y,p1,p2⟩:=h.cur
  exact ⟨i,y,p1,(hblk2 cb h.cur.lt (fun e=>by have:=hobm _ e;omega) (by omega)).trans p2⟩
 refine gr_new (gr_new (gal h.gr _) hg (fun j e=>?_)) hset (fun j e=>by simp only [Option.some.injEq] at e;omega);have:=hobm j e
 omega
theorem row_slice {W:World} {B e size n:Nat} {v:Value} {xs:List Value} (h:W.ownsRow B e size v n xs):∃ a k c,v=.slice a k c:=by
 rcases h.2 with ⟨h1,h2⟩ | ⟨g,cap,cur,h1,_⟩
 ·exact ⟨none,0,0,h1⟩
 exact ⟨_,_,_,h1⟩
theorem l06Any_any (cb:Nat) (ao:Option Addr) (n cap:Nat) (w:World) (hn:n≤1048576) (hcur:Cur w cb ao n cap) (hcode:Code w cb ao n) :
  Calls Tryz.prog 45 #[.pointer (some ⟨cb,0,none⟩)] w fun e w'=>Any6 cb ao n cap w e w':=by
 have hlt:=hcur.lt;have R0:=hid (Bx.new w 38 0 ⟨#[]⟩ 0 0 0 (.slice none 0 0) (.slice none 0 0));have C0:=hid (hcur.alloc (.cells #[.int .i64 0,.string ⟨#[]⟩,.int .i64 0,.int .i64 0,.int .i64 0,.slice none 0 0,.slice none 0 0] 38));have HO:=hid hcode;have G0:=hid (World.grownBy_alloc w (.cells #[.int .i64 0,.string ⟨#[]⟩,.int .i64 0,.int .i64 0,.int .i64 0,.slice none 0 0,.slice none 0 0] 38) (some cb));clear hcur hcode
 go_enter Tryz.func45,Tryz.ntmps45
 go_wp2_with fail
 refine (below4 cb ao n cap _ hn C0.out (HO.out.later G0.out) 14 (by decide) (by decide)).mono ?_;rintro e w1 ⟨k,hk,rfl,hc,hg⟩;have C1:=hid hc;have G1:=hid (only_trans G0.out hg);have R1:=hid (R0.out.far hg (by omega));clear hc hg R0 C0 G0
 go_wp2_with fail
 refine (below4 cb ao n cap _ hn C1.out (HO.out.later G1.out) 60 (by decide) (by decide)).mono ?_;rintro e w2 ⟨x,hx,rfl,hc,hg⟩;have C2:=hid hc;have G2:=hid (only_trans G1.out hg);have R2:=hid (R1.out.far hg (by omega));have HXX:=hid hx;clear hc hg R1 C1 G1
 go_wp2_with fail
 refine (l06Box_any cb ao n cap _ hn C2.out (HO.out.later G2.out)).mono ?_;rintro e w3 ⟨nm,t,b,nx,ma,mn,mc,ga,gn,gc,L,G,rfl,hd,ho,hc,hg⟩;have C3:=hid hc;have G3:=hid (only_trans G2.out hg);have R3:=hid (R2.out.far hg (by omega));obtain ⟨r1,r2,r3,r4⟩:=ho.reads;obtain ⟨s1,s2,s3,s4⟩:=hd.sm;have HR3:=hid r3;have HR4:=hid r4;have HG0:=hid ho.none.2;have HSM:=hid s3;have HNZ:=hid s4;have HL:=hid r1;have HGL:=hid r2
 have HMN:Hid (mn≤10):=by show _≤_;omega
 have HGN:Hid (gn≤40):=by show _≤_;omega
 clear hc hg R2 C2 G2 ho hd r1 r2 r3 r4 s1 s2 s3 s4 hx
 go_wp2_with fail
 refine (l06Copy_any _ _ _ _ 7 nm t b nx ma mn mc ga gn gc L G _ HL.out.symm (by have:=HMN.out;omega) HSM.out HR3.out HGL.out.symm (by have:=HGN.out;omega) HR4.out HG0.out).mono ?_;rintro e w4 ⟨mv,gv,rfl,ho4,hb4⟩;obtain ⟨a,c,a',c',hv1,hv2⟩:=ho4.shape;rw [← HL.out] at hv1;rw [← HGL.out] at hv2;subst hv1;subst hv2;obtain ⟨B,hB⟩:∃ B,w3.heap.size=B:=⟨_,rfl⟩;rw [hB] at ho4
 have HBB:Hid (w.heap.size<B):=by rw [← hB];exact R3.out.lt
 have HB4:Hid (B≤w4.heap.size):=by rw [← hB];exact hb4.size
 have HN0:=hid ho4.none;have hrd:=ho4.reads;have HRD1:=hid hrd.2.2.1;have HRD2:=hid hrd.2.2.2;obtain ⟨Z,hZ,hz4,hi4,hdj,hdz⟩:=ho4;have HZ:=hid hZ;have HZ4:=hid hz4;have HI4:=hid hi4;have HDJ:=hid hdj;have HDZ:=hid hdz;have HZL:Hid (Z.length=mn):=hz4.ms.1.symm;obtain ⟨kb,hkb⟩:∃ kb,w4.heap.size=kb:=⟨_,rfl⟩;have HK4:=hid hkb;obtain ⟨W4,hW4⟩:∃ W4,w4.alloc (.cells #[.int .i64 7,.string nm,.int .i64 t,.int .i64 b,.int .i64 nx,.slice a mn c,.slice a' gn c'] 38)=W4:=⟨_,rfl⟩
 have HW5:Hid (w4.grownBy W4 (some cb)):=by rw [← hW4];exact World.grownBy_alloc _ _ _
 have T4:Hid (As w W4 cb ao n cap kb kb 7 nm t b nx a mn c a' gn c' L G):=by
  have h1:=HBB.out;have h2:=HB4.out;rw [hkb] at h2;refine ⟨?_,?_,?_,?_,?_,by omega,hlt⟩
  ·rw [← hW4];exact (R3.out.later hb4).later (bpush (bre _) _)
  ·rw [← hW4,← hkb];exact Bx.new _ _ _ _ _ _ _ _ _
  ·rw [← hW4,← hkb]
   refine Bg.later ⟨?_,HL.out.symm,?_,HSM.out,HRD1.out.wide (by omega) (Nat.le_refl _) (Nat.le_refl _),HN0.out.1,HGL.out.symm,?_,HRD2.out.wide (by omega) (Nat.le_refl _) (Nat.le_refl _),HN0.out.2⟩ (bpush (bre _) _)
   ·have:=HNZ.out;omega
   ·have:=HMN.out;omega
   have:=HGN.out;omega
  ·rw [← hW4];exact (C3.out.later hb4 C3.out.lt).alloc _
  rw [← hW4];exact gal (only_add G3.out (hb4.mono G3.out.size)) _
 clear hb4 hrd hZ hz4 hi4 hdj hdz R3 C3 G3 hB HR3 HR4 HG0
 have hne:¬ kb=w.heap.size:=by have:=T4.out.lo;omega
 have hne':¬ w.heap.size=kb:=by have:=T4.out.lo;omega
 have q0:=T4.out.box.cells;have f0:=T4.out.box.loose;have q1:=T4.out.res.cells;have f1:=T4.out.res.loose
 have k0:k=0∨k=1∨k=2∨k=3∨k=4∨k=5∨6≤k:=by omega
 clear hk
 rcases k0 with rfl | rfl | rfl | rfl | rfl | rfl | k6
 ·go_wp2
  exact any6_end (T4.out.turn (Nat.le_refl _) only_set (T4.out.box.s0 _) T4.out.bg.nmz) (fun W' _ d=>by simp [results,Tryz.results45,go_sem,d])
 ·have h3:(x:Int).tmod 3=0∨(x:Int).tmod 3=1∨(x:Int).tmod 3=2:=tmod3 x
  rcases h3 with h3 | h3 | h3
  ·have T5:=hid (T4.out.later (bpush (bre _) (.cells #[.string ⟨#[]⟩,.string ⟨#[65]⟩,.string ⟨#[116,104,105,114,116,101,101,110,115,105,103,110,115]⟩] 9)))
   have T6:=hid (T5.out.turn (Nat.le_refl _) only_set (T5.out.box.s1 ⟨#[]⟩) (by decide));have cM:=T5.out.box.cells;have fM:=T5.out.box.loose;have rM:=T5.out.res.cells;have gM:=T5.out.res.loose
   go_wp2
   exact any6_end T6.out (fun W' _ d=>by simp [results,Tryz.results45,go_sem,d])
  ·have T5:=hid (T4.out.later (bpush (bre _) (.cells #[.string ⟨#[]⟩,.string ⟨#[65]⟩,.string ⟨#[116,104,105,114,116,101,101,110,115,105,103,110,115]⟩] 9)))
   have T6:=hid (T5.out.turn (Nat.le_refl _) only_set (T5.out.box.s1 ⟨#[65]⟩) (by decide));have cM:=T5.out.box.cells;have fM:=T5.out.box.loose;have rM:=T5.out.res.cells;have gM:=T5.out.res.loose
   go_wp2
   exact any6_end T6.out (fun W' _ d=>by simp [results,Tryz.results45,go_sem,d])
  have T5:=hid (T4.out.later (bpush (bre _) (.cells #[.string ⟨#[]⟩,.string ⟨#[65]⟩,.string ⟨#[116,104,105,114,116,101,101,110,115,105,103,110,115]⟩] 9)));have T6:=hid (T5.out.turn (Nat.le_refl _) only_set (T5.out.box.s1 ⟨#[116,104,105,114,116,101,101,110,115,105,103,110,115]⟩) (by decide));have cM:=T5.out.box.cells;have fM:=T5.out.box.loose;have rM:=T5.out.res.cells;have gM:=T5.out.res.loose
  go_wp2
  exact any6_end T6.out (fun W' _ d=>by simp [results,Tryz.results45,go_sem,d])
 ·go_wp2
  exact any6_end (T4.out.turn (Nat.le_refl _) only_set (T4.out.box.s4 _) T4.out.bg.nmz) (fun W' _ d=>by simp [results,Tryz.results45,go_sem,d])
 ·clear q0 f0 q1 f1
  go_wp2_with fail
  try rw [hkb]
  try rw [hW4]
  clear hW4 hkb;have T5:=hid T4.out.drew;have HW5d:Hid (w4.grownBy W4.drew (some cb)):=gdr HW5.out
  have HLO:Hid (kb<W4.heap.size+1):=by have:=T4.out.box.lt;show _<_;omega
  clear T4 HW5;refine wp_region_noPanic ?_;refine wp_region_held_drew (S:=(fun _=>True)) (by kernel_rfl) (trivial) (fun hHeld=>?_);refine tk 0 ?_;refine tk 2 ?_;clear hHeld;refine wpAnyH_ready (rs:=[1,3]) (by kernel_rfl) (by simp) ?_;refine rc (fun K hK=>?_) ?_
  ·have z0:=T5.out.box.cells
   go_simp;clear z0;refine hK.out _ _ (trivial) (fun hHeld=>?_);clear hK K;try simp only [Act.put,tq]
   clear hHeld;refine ry 3 (fun K hK=>?_);go_simp;refine (l05Any_any cb ao n cap _ hn T5.out.cur (HO.out.later T5.out.gr)).mono ?_;rintro e w6 ⟨g5,u5,f5,l5,t5,rfl,hd5,ht5,hc5,hg5⟩;obtain ⟨a5,c5,rfl,p1,p2,p3,p4,p5⟩:=hd5;have D6:Hid (Dl w6 (W4.heap.size+1) (.slice a5 l5.length c5) l5):=⟨a5,c5,rfl,p1,p2,p3,p4,p5⟩;have T6:=hid (T5.out.draw hg5 hc5);have HW6:=hid (only_trans HW5d.out hg5);have HT5:=hid ht5;clear hc5 hg5 ht5 p1 p2 p3 p4 p5
   go_wp2_with fail
   refine hK.out _ _ (trivial) (fun hHeld=>?_);clear hK K;try simp only [Act.put,tq]
   clear hHeld;refine ry 4 (fun K hK=>?_);go_simp;refine hK.out _ _ (trivial) (fun hHeld=>?_);clear hK K;try simp only [Act.put,tq]
   clear hHeld;refine ry 5 (fun K hK=>?_);refine step_append_mg rfl (.tmp 35) (.tmp 38) rfl B _ Z (by rfl) ((g5,u5,.slice a5 l5.length c5,l5,t5):Z5) (HZ4.out.grown HW6.out (by have h1:=HBB.out;have h2:=T6.out.hi;omega)).row ⟨_,_,_,rfl⟩ (by rfl) (by have h1:=HZL.out;have h2:=HMN.out;omega) (by have h1:=HB4.out;have h2:=T6.out.box.lt;have h3:=HK4.out;omega) ?_;intro v7 w7 hrow7 hg7 hl7;obtain ⟨a7,n7,c7,rfl⟩:=row_slice hrow7;have T8:=hid (As.more (z:=((g5,u5,.slice a5 l5.length c5,l5,t5):Z5)) T6.out HK4.out HW6.out HZ.out HZ4.out HI4.out HDJ.out HBB.out D6.out HLO.out HT5.out HMN.out hrow7 hg7 hl7);have hb7:Bx w7 kb 38 7 nm t b nx (.slice a mn c) (.slice a' gn c'):=((T6.out.later (bpush (bre _) (.cells #[.int .i64 g5,.int .i64 u5,.slice a5 l5.length c5,.string t5] 78))).box).grown hg7 (fun e=>by have h1:=(HZ4.out.row.lt kb e.symm).2;have h2:=HK4.out;omega);have z7:=hb7.cells;have y7:=hb7.loose;clear hb7 hrow7 hg7 hl7;refine hK.out _ _ (trivial) (fun hHeld=>?_);clear hK K;try simp only [Act.put,tq]
   refine tk 6 ?_;clear hHeld;refine ry 7 (fun K hK=>?_);go_simp;clear z7 y7;refine hK.out _ _ (trivial) (fun hHeld=>?_);clear hK K;try simp only [Act.put,tq]
   refine dn ?_;have q0:=T8.out.box.cells;have q1:=T8.out.res.cells;have f1:=T8.out.res.loose
   go_wp2
   exact any6_end T8.out (fun W' _ d=>by simp [results,Tryz.results45,go_sem,d])
  refine rl (fun K hK=>?_);go_simp;refine (l05Any_any cb ao n cap _ hn T5.out.cur (HO.out.later T5.out.gr)).mono ?_;rintro e w6 ⟨g5,u5,f5,l5,t5,rfl,hd5,ht5,hc5,hg5⟩;obtain ⟨a5,c5,rfl,p1,p2,p3,p4,p5⟩:=hd5;have D6:Hid (Dl w6 (W4.heap.size+1) (.slice a5 l5.length c5) l5):=⟨a5,c5,rfl,p1,p2,p3,p4,p5⟩;have T6:=hid (T5.out.draw hg5 hc5);have HW6:=hid (only_trans HW5d.out hg5);have HT5:=hid ht5;clear hc5 hg5 ht5 p1 p2 p3 p4 p5
  go_wp2_with fail
  refine hK.out _ _ (trivial) (fun hHeld=>?_);clear hK K;try simp only [Act.put,tq]
  clear hHeld;refine wpAnyH_ready (rs:=[1,4]) (by kernel_rfl) (by simp) ?_;refine rc (fun K hK=>?_) ?_
  ·have z0:=T6.out.box.cells
   go_simp;clear z0;refine hK.out _ _ (trivial) (fun hHeld=>?_);clear hK K;try simp only [Act.put,tq]
   clear hHeld;refine ry 4 (fun K hK=>?_);go_simp;refine hK.out _ _ (trivial) (fun hHeld=>?_);clear hK K;try simp only [Act.put,tq]
   clear hHeld;refine ry 5 (fun K hK=>?_);refine step_append_mg rfl (.tmp 35) (.tmp 38) rfl B _ Z (by rfl) ((g5,u5,.slice a5 l5.length c5,l5,t5):Z5) (HZ4.out.grown HW6.out (by have h1:=HBB.out;have h2:=T6.out.hi;omega)).row ⟨_,_,_,rfl⟩ (by rfl) (by have h1:=HZL.out;have h2:=HMN.out;omega) (by have h1:=HB4.out;have h2:=T6.out.box.lt;have h3:=HK4.out;omega) ?_;intro v7 w7 hrow7 hg7 hl7;obtain ⟨a7,n7,c7,rfl⟩:=row_slice hrow7;have T8:=hid (As.more (z:=((g5,u5,.slice a5 l5.length c5,l5,t5):Z5)) T6.out HK4.out HW6.out HZ.out HZ4.out HI4.out HDJ.out HBB.out D6.out HLO.out HT5.out HMN.out hrow7 hg7 hl7);have hb7:Bx w7 kb 38 7 nm t b nx (.slice a mn c) (.slice a' gn c'):=((T6.out.later (bpush (bre _) (.cells #[.int .i64 g5,.int .i64 u5,.slice a5 l5.length c5,.string t5] 78))).box).grown hg7 (fun e=>by have h1:=(HZ4.out.row.lt kb e.symm).2;have h2:=HK4.out;omega);have z7:=hb7.cells;have y7:=hb7.loose;clear hb7 hrow7 hg7 hl7;refine hK.out _ _ (trivial) (fun hHeld=>?_);clear hK K;try simp only [Act.put,tq]
   refine tk 6 ?_;clear hHeld;refine ry 7 (fun K hK=>?_);go_simp;clear z7 y7;refine hK.out _ _ (trivial) (fun hHeld=>?_);clear hK K;try simp only [Act.put,tq]
   refine dn ?_;have q0:=T8.out.box.cells;have q1:=T8.out.res.cells;have f1:=T8.out.res.loose
   go_wp2
   exact any6_end T8.out (fun W' _ d=>by simp [results,Tryz.results45,go_sem,d])
  refine rl (fun K hK=>?_);go_simp;refine hK.out _ _ (trivial) (fun hHeld=>?_);clear hK K;try simp only [Act.put,tq]
  clear hHeld;refine ry 1 (fun K hK=>?_);have z0:=(T6.out.later (bpush (bre _) (.cells #[.int .i64 g5,.int .i64 u5,.slice a5 l5.length c5,.string t5] 78))).box.cells;go_simp;clear z0;refine hK.out _ _ (trivial) (fun hHeld=>?_);clear hK K;try simp only [Act.put,tq]
  clear hHeld;refine ry 5 (fun K hK=>?_);refine step_append_mg rfl (.tmp 35) (.tmp 38) rfl B _ Z (by rfl) ((g5,u5,.slice a5 l5.length c5,l5,t5):Z5) (HZ4.out.grown HW6.out (by have h1:=HBB.out;have h2:=T6.out.hi;omega)).row ⟨_,_,_,rfl⟩ (by rfl) (by have h1:=HZL.out;have h2:=HMN.out;omega) (by have h1:=HB4.out;have h2:=T6.out.box.lt;have h3:=HK4.out;omega) ?_;intro v7 w7 hrow7 hg7 hl7;obtain ⟨a7,n7,c7,rfl⟩:=row_slice hrow7;have T8:=hid (As.more (z:=((g5,u5,.slice a5 l5.length c5,l5,t5):Z5)) T6.out HK4.out HW6.out HZ.out HZ4.out HI4.out HDJ.out HBB.out D6.out HLO.out HT5.out HMN.out hrow7 hg7 hl7);have hb7:Bx w7 kb 38 7 nm t b nx (.slice a mn c) (.slice a' gn c'):=((T6.out.later (bpush (bre _) (.cells #[.int .i64 g5,.int .i64 u5,.slice a5 l5.length c5,.string t5] 78))).box).grown hg7 (fun e=>by have h1:=(HZ4.out.row.lt kb e.symm).2;have h2:=HK4.out;omega);have z7:=hb7.cells;have y7:=hb7.loose;clear hb7 hrow7 hg7 hl7;refine hK.out _ _ (trivial) (fun hHeld=>?_);clear hK K;try simp only [Act.put,tq]
  refine tk 6 ?_;clear hHeld;refine ry 7 (fun K hK=>?_);go_simp;clear z7 y7;refine hK.out _ _ (trivial) (fun hHeld=>?_);clear hK K;try simp only [Act.put,tq]
  refine dn ?_;have q0:=T8.out.box.cells;have q1:=T8.out.res.cells;have f1:=T8.out.res.loose
  go_wp2
  exact any6_end T8.out (fun W' _ d=>by simp [results,Tryz.results45,go_sem,d])
 ·have HOI:Hid (OwI W4 B (.slice a' gn c') G):=OwI.grown HI4.out HW5.out (by have:=HBB.out;omega)
  have hsz4:B≤W4.heap.size:=Nat.le_trans HB4.out HW5.out.size
  go_wp2_with (at_builtin;refine wpList_append_ig W4 rfl (.tmp 44) (.tmp 46) rfl B _ G (by rfl) HOI.out (x:Int) (by rfl) (by have h1:=HGN.out;have h2:=HGL.out;omega) hsz4 ?_;intro v7 w7 hrow7 hg7 hl7;obtain ⟨a7,n7,c7,rfl⟩:=row_slice hrow7;have T8:=hid (As.moreG T4.out HK4.out HW5.out HZ.out HZ4.out HI4.out HDJ.out HDZ.out HBB.out HGN.out hrow7 hg7 hl7);have hb7:Bx w7 kb 38 7 nm t b nx (.slice a mn c) (.slice a' gn c'):=((T4.out.later (bpush (bre _) _)).box).grown hg7 (fun e=>by have h1:=(HI4.out.lt kb e.symm).2;have h2:=HK4.out;omega);have hr7:Bx w7 w.heap.size 38 0 ⟨#[]⟩ 0 0 0 (.slice none 0 0) (.slice none 0 0):=((T4.out.later (bpush (bre _) _)).res).grown hg7 (fun e=>by have h1:=(HI4.out.lt w.heap.size e.symm).1;have h2:=HBB.out;omega);have z7:=hb7.cells;have y7:=hb7.loose;have r7:=hr7.cells;have s7:=hr7.loose;clear hb7 hr7 hrow7 hg7 hl7)
  exact any6_end T8.out (fun W' _ d=>by simp [results,Tryz.results45,go_sem,d])
 ·clear q0 f0
  go_wp2_with fail
  try rw [hkb]
  try rw [hW4]
  clear hW4 hkb;refine (l03Any_any cb ao n cap _ hn T4.out.cur (HO.out.later T4.out.gr)).mono ?_;rintro e w5 ⟨t5,b5,rfl,hc,hg⟩;have T5:=hid (T4.out.draw hg hc);have q0:=T5.out.box.cells;have f0:=T5.out.box.loose;have q1:=T5.out.res.cells;have f1:=T5.out.res.loose;clear hc hg
  go_wp2
  have hs:w5.grownBy ((w5.setCell ⟨kb,2,none⟩ (.int .i64 t5)).setCell ⟨kb,3,none⟩ (.int .i64 b5)) (some kb):=wst (wst (wre _ _) _ _) _ _;exact any6_end (T5.out.turn (Nat.le_refl _) hs ((T5.out.box.s2 t5).s3 b5) T5.out.bg.nmz) (fun W' _ d=>by simp [results,Tryz.results45,go_sem,d])
 have e0:((k:Int) == 0)=false:=by simp;omega
 have e1:((k:Int) == 1)=false:=by simp;omega
 have e2:((k:Int) == 2)=false:=by simp;omega
 have e3:((k:Int) == 3)=false:=by simp;omega
 have e4:((k:Int) == 4)=false:=by simp;omega
 have e5:((k:Int) == 5)=false:=by simp;omega
 clear k6
 go_wp2
 exact any6_end T4.out (fun W' _ d=>by simp [results,Tryz.results45,go_sem,d])
def Bq (W:World) (lo:Nat) (nm:ByteArray) (ma:Option Addr) (mn mc:Nat) (ga:Option Addr) (gn gc:Nat) (L:List M4) (G:List Int):Prop:=∃ hi,Bg W lo hi nm ma mn mc ga gn gc L G
theorem Bq.later {W W':World} {lo:Nat} {nm:ByteArray} {ma:Option Addr} {mn mc:Nat} {ga:Option Addr} {gn gc:Nat} {L:List M4} {G:List Int} (h:Bq W lo nm ma mn mc ga gn gc L G) (hb:Below W.heap.size W W'):Bq W' lo nm ma mn mc ga gn gc L G:=by
 obtain ⟨hi,h⟩:=h;exact ⟨hi,h.later hb⟩
def One6 (w:World) (e:Ending) (w':World):Prop :=
 ∃ (g:Int) (nm:ByteArray) (t b nx:Int) (ma:Option Addr) (mn mc:Nat) (ga:Option Addr) (gn gc:Nat) (L:List M4) (G:List Int),e=.returned (.agg #[.int .i64 g,.string nm,.int .i64 t,.int .i64 b,.int .i64 nx,.slice ma mn mc,.slice ga gn gc])∧Bq w' (w.heap.size+1) nm ma mn mc ga gn gc L G∧Below w.heap.size w w'
theorem Bg.set7 {W:World} {lo hi k:Nat} {nm:ByteArray} {ma:Option Addr} {mn mc:Nat} {ga:Option Addr} {gn gc:Nat} {L:List M4} {G:List Int} (h:Bg W lo hi nm ma mn mc ga gn gc L G) (hk:k<lo) (g':Int) (nm':ByteArray) (t' b' nx':Int) (v v':Value):Bg (Go.Proofs.YtdkedgedkgabnaaGreatDoor.set7 W k g' nm' t' b' nx' v v') lo hi nm ma mn mc ga gn gc L G :=
 h.far (set7_grown W k g' nm' t' b' nx' v v') (.inl hk)
structure Bz (W:World) (ma:Option Addr) (mn mc:Nat) (ga:Option Addr) (gn gc:Nat) (L:List M4) (G:List Int):Prop where
 len:L.length=mn
 most:mn≤1048576
 sm:Sm L
 mails:∃ lo hi,Ms lo hi W ma L
 m0:ma=none→mc=0
 glen:G.length=gn
 gmost:gn≤1048576
 gone:∃ lo hi,Is lo hi W ga G
 g0:ga=none→gc=0
section
variable {W W':World} {ma:Option Addr} {mn mc:Nat} {ga:Option Addr} {gn gc:Nat} {L:List M4} {G:List Int}
theorem Bz.later (h:Bz W ma mn mc ga gn gc L G) (hb:Below W.heap.size W W'):Bz W' ma mn mc ga gn gc L G:=by
 obtain ⟨l1,h1,hm⟩:=h.mails;obtain ⟨l2,h2,hi⟩:=h.gone;exact ⟨h.len,h.most,h.sm,⟨l1,h1,hm.later hb⟩,h.m0,h.glen,h.gmost,⟨l2,h2,hi.later hb⟩,h.g0⟩
theorem Bq.bz {lo:Nat} {nm:ByteArray} (h:Bq W lo nm ma mn mc ga gn gc L G):Bz W ma mn mc ga gn gc L G∧nm.size≤20:=by
 obtain ⟨hi,h⟩:=h;exact ⟨⟨h.len,Nat.le_trans h.most (by decide),h.sm,⟨_,_,h.mails⟩,h.m0,h.glen,Nat.le_trans h.gmost (by decide),⟨_,_,h.gone⟩,h.g0⟩,h.nmz⟩
structure BzL (W:World) (lo:Nat) (ma:Option Addr) (mn mc:Nat) (ga:Option Addr) (gn gc:Nat) (L:List M4) (G:List Int):Prop where
 bz:Bz W ma mn mc ga gn gc L G
 mlo:∃ hi,Ms lo hi W ma L
 glo:∃ hi,Is lo hi W ga G
theorem BzL.far {lo k:Nat} (h:BzL W lo ma mn mc ga gn gc L G) (hg:W.grownBy W' (some k)) (hk:k<lo):Bz W' ma mn mc ga gn gc L G:=by
 obtain ⟨h1,hm⟩:=h.mlo;obtain ⟨h2,hi⟩:=h.glo;have hkeep:∀ hh,hh≤W.heap.size→∀ j,lo≤j→j<hh→W'.heap[j]?=W.heap[j]?:=fun hh hs j h1 h2=>hg.block j (by omega) (fun e=>by simp only [Option.some.injEq] at e;omega);exact ⟨h.bz.len,h.bz.most,h.bz.sm,⟨_,_,hm.same (Nat.le_trans hm.1 hg.size) (hkeep _ hm.1)⟩,h.bz.m0,h.bz.glen,h.bz.gmost,⟨_,_,hi.same (Nat.le_trans hi.1 hg.size) (hkeep _ hi.1)⟩,h.bz.g0⟩
theorem own_bz {B:Nat} {mv gv:Value} (h:OwB W B mv gv L G) (h1:L.length≤1048576) (h2:Sm L) (h3:G.length≤1048576):∃ a c a' c',mv=.slice a L.length c∧gv=.slice a' G.length c'∧BzL W B a L.length c a' G.length c' L G:=by
 obtain ⟨a,c,a',c',rfl,rfl⟩:=h.shape;exact ⟨a,c,a',c',rfl,rfl,⟨rfl,h1,h2,⟨_,_,h.reads.2.2.1⟩,h.none.1,rfl,h3,⟨_,_,h.reads.2.2.2⟩,h.none.2⟩,⟨_,h.reads.2.2.1⟩,⟨_,h.reads.2.2.2⟩⟩
end
theorem sameBox_bz (g:Int) (nm:ByteArray) (t b nx:Int) (ma:Option Addr) (mn mc:Nat) (ga:Option Addr) (gn gc:Nat) (ma':Option Addr) (mc':Nat) (ga':Option Addr) (gc':Nat) (L:List M4) (G:List Int) (w:World) (h:Bz w ma mn mc ga gn gc L G) (h':Bz w ma' mn mc' ga' gn gc' L G) :
  Calls Tryz.prog 20 #[.agg #[.int .i64 g,.string nm,.int .i64 t,.int .i64 b,.int .i64 nx,.slice ma mn mc,.slice ga gn gc],.agg #[.int .i64 g,.string nm,.int .i64 t,.int .i64 b,.int .i64 nx,.slice ma' mn mc',.slice ga' gn gc']] w fun e w'=>e=.returned (.bool true)∧Below w.heap.size w w':=by
 obtain ⟨l1,h1,hm⟩:=h.mails;obtain ⟨l2,h2,hi⟩:=h.gone;obtain ⟨l3,h3,hm'⟩:=h'.mails;obtain ⟨l4,h4,hi'⟩:=h'.gone;exact sameBox_any l1 h1 l3 h3 l2 h2 l4 h4 g nm t b nx ma mn mc ga gn gc ma' mc' ga' gc' L G w h.len h.most h.sm hm hm' h.glen h.gmost hi hi'
section
variable (g:Int) (nm:ByteArray) (t b nx:Int) (mn gn:Nat) (L:List M4) (G:List Int)
end
end Go.Proofs.YtdkedgedkgabnaaGreatDoor
