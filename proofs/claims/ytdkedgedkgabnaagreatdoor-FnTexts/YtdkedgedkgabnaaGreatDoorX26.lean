/- Bdr. -/
import Derived.Test.YtdkedgedkgabnaaGreatDoorX25
namespace Go.Proofs.YtdkedgedkgabnaaGreatDoor
open Go.RowKit Go.ChangeMaps
set_option maxHeartbeats 16000000
set_option maxRecDepth 100000
theorem pickm_any (cb g k:Nat) (zs:List ByteArray) (ao:Option Addr) (n cap:Nat) (w:World) (hn:n≤1048576) (hcur:Cur w cb ao n cap) (hcode:Code w cb ao n) (hk:zs.length=k) (hk0:0<k) (hk2:k≤1000) (hg:g≠cb)
  (hcell:∀ i (h:i<zs.length),w.cell? ⟨g,i,none⟩=some (.string zs[i])) :
  Calls Tryz.prog 130 #[.pointer (some ⟨cb,0,none⟩),.slice (some ⟨g,0,none⟩) k k] w fun e w'=>∃ x:ByteArray,x∈zs∧e=.returned (.string x)∧Cur w' cb ao n cap∧w.grownBy w' (some cb):=by
 have HC:=hide hcur;have HO:=hide hcode;have HK:=hide hk;have HCELL:=hide hcell;clear hcur hcode hk hcell
 go_enter Tryz.func130,Tryz.ntmps130
 go_wp2_with fail
 refine (below4 cb ao n cap _ hn (unhide HC) (unhide HO) k (by omega) (by omega)).mono ?_;rintro e w1 ⟨x,hx,rfl,hc1,hb1⟩
 have hxl:x<zs.length:=by rw [unhide HK];omega
 obtain ⟨y,hy⟩:∃ y,zs[x]=y:=⟨_,rfl⟩;have hc:w1.cell? ⟨g,x,none⟩=some (.string y):=hb1.cell (by rw [← hy];exact unhide HCELL x hxl) (by simp;omega)
 have HY:Hid (y∈zs):=by show _∈_;rw [← hy];exact List.getElem_mem _
 have HC1:=hide hc1
 have hI:(0:Int)≤(x:Int)∧(x:Int)<(k:Int):=by omega
 clear hc1 hy
 go_wp2
 go_ret
 exact ⟨y,HY.out,rfl,unhide HC1,hb1⟩
theorem three_strs {W:World} {k e:Nat} {a b c:ByteArray} (h:W.heap[k]?=some (.cells #[.string a,.string b,.string c] e (0,0))):∀ i (h:i<[a,b,c].length),W.cell? ⟨k,i,none⟩=some (.string [a,b,c][i]):=by
 intro i hi
 have h2:i=0∨i=1∨i=2:=by simp at hi;omega
 rcases h2 with rfl | rfl | rfl
 ·exact cell_of_row _ _ 0 _ _ _ h
 ·exact cell_of_row _ _ 1 _ _ _ h
 exact cell_of_row _ _ 2 _ _ _ h
structure Pb (w W:World) (cb:Nat) (ao:Option Addr) (n cap kS:Nat) (t b:Int):Prop where
 res:Bx W w.heap.size 38 0 ⟨#[]⟩ 0 0 0 (.slice none 0 0) (.slice none 0 0)
 sg:Sg W kS 35 t b
 cur:Cur W cb ao n cap
 gr:w.grownBy W (some cb)
 lo:w.heap.size<kS
 hi:cb<w.heap.size
section
variable {w W W':World} {cb:Nat} {ao:Option Addr} {n cap kS:Nat} {t b:Int}
theorem Pb.drew (h:Pb w W cb ao n cap kS t b):Pb w W.drew cb ao n cap kS t b:=⟨h.res,h.sg,h.cur,gdr h.gr,h.lo,h.hi⟩
theorem Pb.alloc (h:Pb w W cb ao n cap kS t b) (o:Obj):Pb w (W.alloc o) cb ao n cap kS t b :=
 ⟨h.res.later (bpush (bre _) _),h.sg.later (bpush (bre _) _),h.cur.alloc _,gal h.gr _,h.lo,h.hi⟩
theorem Pb.draw (h:Pb w W cb ao n cap kS t b) (hg:W.grownBy W' (some cb)) (hc:Cur W' cb ao n cap):Pb w W' cb ao n cap kS t b:=by
 have h1:=h.lo;have h2:=h.hi;exact ⟨h.res.grown hg (fun e=>by simp only [Option.some.injEq] at e;omega),h.sg.kept hg (by omega),hc,only_trans h.gr hg,h.lo,h.hi⟩
theorem Pb.size (h:Pb w W cb ao n cap kS t b):w.heap.size<W.heap.size:=h.res.lt
end
theorem Bx.far {W W':World} {k ty cb:Nat} {g:Int} {nm:ByteArray} {t b nx:Int} {ms gs:Value} (h:Bx W k ty g nm t b nx ms gs) (hg:W.grownBy W' (some cb)) (hk:k≠cb):Bx W' k ty g nm t b nx ms gs:=h.grown hg (fun e=>by simp only [Option.some.injEq] at e;omega)
structure Lb (w W:World) (cb:Nat) (ao:Option Addr) (n cap kb k:Nat) (nm:ByteArray) (t b nx:Int) (ma:Option Addr) (mn mc:Nat) (ga:Option Addr) (gn gc:Nat) (L:List M4) (G:List Int):Prop where
 res:Bx W w.heap.size 38 0 ⟨#[]⟩ 0 0 0 (.slice none 0 0) (.slice none 0 0)
 box:Bx W kb 38 7 nm t b nx (.slice ma mn mc) (.slice ga gn gc)
 own:OwB W (kb+1) (.slice ma mn mc) (.slice ga gn gc) L G
 dbx:Dbx k 7 nm t b nx L G
 cur:Cur W cb ao n cap
 gr:w.grownBy W (some cb)
 lo:w.heap.size<kb
 hi:cb<w.heap.size
section
variable {w W W':World} {cb:Nat} {ao:Option Addr} {n cap kb k:Nat} {nm:ByteArray} {t b nx:Int} {ma:Option Addr} {mn mc:Nat} {ga:Option Addr} {gn gc:Nat} {L:List M4} {G:List Int}
theorem Lb.drew (h:Lb w W cb ao n cap kb k nm t b nx ma mn mc ga gn gc L G):Lb w W.drew cb ao n cap kb k nm t b nx ma mn mc ga gn gc L G :=
 ⟨h.res,h.box,h.own.later (bdr (bre _)),h.dbx,h.cur,gdr h.gr,h.lo,h.hi⟩
theorem Lb.later (h:Lb w W cb ao n cap kb k nm t b nx ma mn mc ga gn gc L G) (hb:Below W.heap.size W W'):Lb w W' cb ao n cap kb k nm t b nx ma mn mc ga gn gc L G :=
 ⟨h.res.later hb,h.box.later hb,h.own.later hb,h.dbx,h.cur.later hb h.cur.lt,only_add h.gr (hb.mono h.gr.size),h.lo,h.hi⟩
theorem Lb.draw (h:Lb w W cb ao n cap kb k nm t b nx ma mn mc ga gn gc L G) (hg:W.grownBy W' (some cb)) (hc:Cur W' cb ao n cap):Lb w W' cb ao n cap kb k nm t b nx ma mn mc ga gn gc L G:=by
 have h1:=h.lo;have h2:=h.hi;exact ⟨h.res.far hg (by omega),h.box.far hg (by omega),h.own.grown hg (by omega),h.dbx,hc,only_trans h.gr hg,h.lo,h.hi⟩
theorem Lb.reads (h:Lb w W cb ao n cap kb k nm t b nx ma mn mc ga gn gc L G):mn=L.length∧gn=G.length∧Ms (kb+1) W.heap.size W ma L∧Is (kb+1) W.heap.size W ga G:=h.own.reads
theorem Lb.put {k':Nat} {nx':Int} {a:Option Addr} {N c:Nat} {a':Option Addr} {M c':Nat} {K:List M4} {H:List Int} {wv:World} (h:Lb w W cb ao n cap kb k nm t b nx ma mn mc ga gn gc L G) (hb:Below W.heap.size W wv) (ho:OwB wv W.heap.size (.slice a N c) (.slice a' M c') K H) (hd:Dbx k' 7 nm t b nx' K H) :
  Lb w (((((((wv.setCell ⟨kb,0,none⟩ (.int .i64 7)).setCell ⟨kb,1,none⟩ (.string nm)).setCell ⟨kb,2,none⟩ (.int .i64 t)).setCell ⟨kb,3,none⟩ (.int .i64 b)).setCell ⟨kb,4,none⟩ (.int .i64 nx')).setCell ⟨kb,5,none⟩ (.slice a N c)).setCell ⟨kb,6,none⟩ (.slice a' M c')) cb ao n cap kb k' nm t b nx' a N c a' M c' K H:=by
 have h1:=h.lo;have h2:=h.hi;have h3:=h.box.lt;have hl:=h.later hb;have hg:=set7_grown wv kb 7 nm t b nx' (.slice a N c) (.slice a' M c');have hx:=hl.box.set7 7 nm t b nx' (.slice a N c) (.slice a' M c');unfold set7 at hg hx;refine ⟨hl.res.far hg (by omega),hx,?_,hd,?_,?_,h1,h2⟩
 ·exact (ho.base (B:=kb+1) (by omega)).grown hg (by omega)
 ·exact ((((((hl.cur.set (by omega)).set (by omega)).set (by omega)).set (by omega)).set (by omega)).set (by omega)).set (by omega)
 exact gset (gset (gset (gset (gset (gset (gset hl.gr (by omega) _ _) (by omega) _ _) (by omega) _ _) (by omega) _ _) (by omega) _ _) (by omega) _ _) (by omega) _ _
end
theorem nm_three {nm:ByteArray} (h:nm∈([⟨#[105,110,98,111,120]⟩,⟨#[119,111,114,107]⟩,⟨#[111,108,100,57]⟩]:List ByteArray)):nmOk nm=true:=by
 simp only [List.mem_cons,List.not_mem_nil,or_false] at h
 rcases h with rfl | rfl | rfl <;> decide
theorem Lb.first {w W:World} {cb:Nat} {ao:Option Addr} {n cap kS k:Nat} {nm:ByteArray} {t b nx:Int} (h:Pb w W cb ao n cap kS t b) (hx:Bx W k 38 0 ⟨#[]⟩ 0 0 0 (.slice none 0 0) (.slice none 0 0)) (hk:w.heap.size<k) (hs:kS≠k) (hd:Dbx 0 7 nm t b nx [] []) :
  Lb w (((((((W.setCell ⟨k,0,none⟩ (.int .i64 7)).setCell ⟨k,1,none⟩ (.string nm)).setCell ⟨k,2,none⟩ (.int .i64 t)).setCell ⟨k,3,none⟩ (.int .i64 b)).setCell ⟨k,4,none⟩ (.int .i64 nx)).setCell ⟨k,5,none⟩ (.slice none 0 0)).setCell ⟨k,6,none⟩ (.slice none 0 0)) cb ao n cap k 0 nm t b nx none 0 0 none 0 0 [] [] ∧
  Sg (((((((W.setCell ⟨k,0,none⟩ (.int .i64 7)).setCell ⟨k,1,none⟩ (.string nm)).setCell ⟨k,2,none⟩ (.int .i64 t)).setCell ⟨k,3,none⟩ (.int .i64 b)).setCell ⟨k,4,none⟩ (.int .i64 nx)).setCell ⟨k,5,none⟩ (.slice none 0 0)).setCell ⟨k,6,none⟩ (.slice none 0 0)) kS 35 t b:=by
 have h2:=h.hi;have hg:=set7_grown W k 7 nm t b nx (.slice none 0 0) (.slice none 0 0);have hy:=hx.set7 7 nm t b nx (.slice none 0 0) (.slice none 0 0);unfold set7 at hg hy;refine ⟨⟨h.res.far hg (by omega),hy,OwB.nil _ _,hd,?_,?_,hk,h2⟩,h.sg.kept hg hs⟩
 ·exact ((((((h.cur.set (by omega)).set (by omega)).set (by omega)).set (by omega)).set (by omega)).set (by omega)).set (by omega)
 exact gset (gset (gset (gset (gset (gset (gset h.gr (by omega) _ _) (by omega) _ _) (by omega) _ _) (by omega) _ _) (by omega) _ _) (by omega) _ _) (by omega) _ _
theorem Lb.firstA {w W:World} {cb:Nat} {ao:Option Addr} {n cap kS:Nat} {nm:ByteArray} {t b nx:Int} (h:Pb w W cb ao n cap kS t b) (hd:Dbx 0 7 nm t b nx [] []) :
  Lb w (W.alloc (.cells #[.int .i64 7,.string nm,.int .i64 t,.int .i64 b,.int .i64 nx,.slice none 0 0,.slice none 0 0] 38)) cb ao n cap W.heap.size 0 nm t b nx none 0 0 none 0 0 [] [] ∧
  Sg (W.alloc (.cells #[.int .i64 7,.string nm,.int .i64 t,.int .i64 b,.int .i64 nx,.slice none 0 0,.slice none 0 0] 38)) kS 35 t b:=by
 have hp:=h.alloc (.cells #[.int .i64 7,.string nm,.int .i64 t,.int .i64 b,.int .i64 nx,.slice none 0 0,.slice none 0 0] 38);exact ⟨⟨hp.res,Bx.new _ _ _ _ _ _ _ _ _,OwB.nil _ _,hd,hp.cur,hp.gr,h.res.lt,h.hi⟩,hp.sg⟩
def Box1 (cb:Nat) (ao:Option Addr) (n cap:Nat) (w:World) (e:Ending) (w':World):Prop :=
 ∃ (nm:ByteArray) (t b nx:Int) (ma:Option Addr) (mn mc:Nat) (ga:Option Addr) (gn gc:Nat) (L:List M4) (G:List Int),e=.returned (.agg #[.int .i64 7,.string nm,.int .i64 t,.int .i64 b,.int .i64 nx,.slice ma mn mc,.slice ga gn gc])∧Dbx 11 7 nm t b nx L G∧OwB w' (w.heap.size+1) (.slice ma mn mc) (.slice ga gn gc) L G∧Cur w' cb ao n cap∧w.grownBy w' (some cb)
def Lx (w W:World) (cb:Nat) (ao:Option Addr) (n cap kb k:Nat) (nm:ByteArray) (t b:Int):Prop :=
 ∃ (nx:Int) (ma:Option Addr) (mn mc:Nat) (ga:Option Addr) (gn gc:Nat) (L:List M4) (G:List Int),Lb w W cb ao n cap kb k nm t b nx ma mn mc ga gn gc L G
theorem l06Box_any (cb:Nat) (ao:Option Addr) (n cap:Nat) (w:World) (hn:n≤1048576) (hcur:Cur w cb ao n cap) (hcode:Code w cb ao n) :
  Calls Tryz.prog 94 #[.pointer (some ⟨cb,0,none⟩)] w fun e w'=>Box1 cb ao n cap w e w':=by
 have hlt:=hcur.lt;have R0:=hid (Bx.new w 38 0 ⟨#[]⟩ 0 0 0 (.slice none 0 0) (.slice none 0 0));have C0:=hid (hcur.alloc (.cells #[.int .i64 0,.string ⟨#[]⟩,.int .i64 0,.int .i64 0,.int .i64 0,.slice none 0 0,.slice none 0 0] 38));have HO:=hid hcode;have G0:=hid (World.grownBy_alloc w (.cells #[.int .i64 0,.string ⟨#[]⟩,.int .i64 0,.int .i64 0,.int .i64 0,.slice none 0 0,.slice none 0 0] 38) (some cb));clear hcur hcode
 go_enter Tryz.func94,Tryz.ntmps94
 go_wp2_with fail
 refine (l03Stamp_any cb ao n cap _ hn C0.out (HO.out.later G0.out)).mono ?_;rintro e w1 ⟨t,b,htb,rfl,hc1,hg1⟩;have HTB:=hid htb;obtain ⟨W1,hW1⟩:∃ W1,w1.alloc (.cells #[.int .i64 t,.int .i64 b] 35)=W1:=⟨_,rfl⟩;obtain ⟨kS,hkS⟩:∃ kS,w1.heap.size=kS:=⟨_,rfl⟩
 have PS:Hid (Pb w W1.drew cb ao n cap kS t b):=by
  subst hkS;subst hW1;have h1:Bx w1 w.heap.size 38 0 ⟨#[]⟩ 0 0 0 (.slice none 0 0) (.slice none 0 0):=R0.out.far hg1 (by omega);exact Pb.drew ⟨h1.later (bpush (bre _) _),Sg.new w1 _ t b,hc1.alloc _,gal (only_trans G0.out hg1) _,h1.lt,hlt⟩
 clear hc1 hg1 htb R0 C0 G0
 go_wp2_with fail
 try rw [hkS]
 try rw [hW1]
 clear hW1 hkS
 go_cut [4] from 8 (fun s wx=>∃ (kb:Nat) (nm:ByteArray),s=.pointer (some ⟨kb,0,none⟩)∧Lx w wx cb ao n cap kb 0 nm t b)
 case first =>
  refine wp_region_noPanic ?_;refine wp_region_held_drew (S:=(fun W=>W.cell? ⟨kS,0,none⟩=some (.int .i64 t)∧W.cell? ⟨kS,1,none⟩=some (.int .i64 b))) (by kernel_rfl) (PS.out.sg.cells) (fun hHeld=>?_);refine tk 0 ?_;refine tk 3 ?_;refine tk 4 ?_;clear hHeld;refine wpAnyH_ready (rs:=[1,8]) (by kernel_rfl) (by simp) ?_;refine rc (fun K hK=>?_) ?_
  ·go_simp
   have PSB:=hid (PS.out.alloc (.cells #[.string ⟨#[105,110,98,111,120]⟩,.string ⟨#[119,111,114,107]⟩,.string ⟨#[111,108,100,57]⟩] 9))
   have EA:(W1.drew).heap.size=W1.heap.size:=by simp
   have TB:Hid (((W1.drew).alloc (.cells #[.string ⟨#[105,110,98,111,120]⟩,.string ⟨#[119,111,114,107]⟩,.string ⟨#[111,108,100,57]⟩] 9)).heap[W1.heap.size]?=some (.cells #[.string ⟨#[105,110,98,111,120]⟩,.string ⟨#[119,111,114,107]⟩,.string ⟨#[111,108,100,57]⟩] 9 (0,0))):=by rw [← EA];exact heap_alloc_new _ _
   have TL:Hid (W1.heap.size≠cb):=by rw [← EA];have h1:=PS.out.size;have h2:=PS.out.hi;show _≠_;omega
   clear EA;refine hK.out _ _ (PSB.out.sg.cells) (fun hHeld=>?_);clear hK K;try simp only [Act.put,tq]
   clear hHeld;refine wpAnyH_ready (rs:=[2,8]) (by kernel_rfl) (by simp) ?_;refine rc (fun K hK=>?_) ?_
   ·go_simp
    refine (pickm_any cb _ 3 [⟨#[105,110,98,111,120]⟩,⟨#[119,111,114,107]⟩,⟨#[111,108,100,57]⟩] ao n cap _ hn PSB.out.cur (HO.out.later PSB.out.gr) rfl (by decide) (by decide) TL.out (three_strs TB.out)).mono ?_;rintro e w2 ⟨nm,hnm,rfl,hc2,hg2⟩;have PSBP:=hid (PSB.out.draw hg2 hc2);have HNM:=hid hnm;clear hc2 hg2 hnm
    go_wp2_with fail
    refine hK.out _ _ (PSBP.out.sg.cells) (fun hHeld=>?_);clear hK K;try simp only [Act.put,tq]
    clear hHeld;refine wpAnyH_ready (rs:=[5,8]) (by kernel_rfl) (by simp) ?_;refine rc (fun K hK=>?_) ?_
    ·go_simp
     refine (below4 cb ao n cap _ hn PSBP.out.cur (HO.out.later PSBP.out.gr) 4 (by decide) (by decide)).mono ?_;rintro e w3 ⟨y,hy,rfl,hc3,hg3⟩;have PSBPQ:=hid (PSBP.out.draw hg3 hc3);have HY:=hid hy;clear hc3 hg3 hy
     go_wp2_with fail
     refine hK.out _ _ (PSBPQ.out.sg.cells) (fun hHeld=>?_);clear hK K;try simp only [Act.put,tq]
     refine tk 6 ?_;refine tk 7 ?_;clear hHeld;refine ry 8 (fun K hK=>?_);go_simp;have PSBPQA:=hid (PSBPQ.out.alloc (.cells #[.int .i64 0,.string ⟨#[]⟩,.int .i64 0,.int .i64 0,.int .i64 0,.slice none 0 0,.slice none 0 0] 38))
     have EA:(w3).heap.size=w3.heap.size:=by simp
     have RA:Hid (Bx ((w3).alloc (.cells #[.int .i64 0,.string ⟨#[]⟩,.int .i64 0,.int .i64 0,.int .i64 0,.slice none 0 0,.slice none 0 0] 38)) (w3.heap.size) 38 0 ⟨#[]⟩ 0 0 0 (.slice none 0 0) (.slice none 0 0)):=by rw [← EA];exact Bx.new _ _ _ _ _ _ _ _ _
     have RL:Hid (w.heap.size<w3.heap.size∧kS<w3.heap.size):=by rw [← EA];exact ⟨PSBPQ.out.size,PSBPQ.out.sg.lt⟩
     clear EA;refine hK.out _ _ (PSBPQA.out.sg.cells) (fun hHeld=>?_);clear hK K;try simp only [Act.put,tq]
     clear hHeld;refine ry 9 (fun K hK=>?_);go_simp
     have hwr:IntKind.i64.wrap (1+(y:Int))=1+(y:Int):=by rw [IntKind.wrap_i64];have:=HY.out;omega
     rw [hwr];clear hwr;have LB:=hid (Lb.firstA PSBPQ.out (dbx_start y (nm_three HNM.out) HTB.out (by have:=HY.out;omega)));refine hK.out _ _ (LB.out.2.cells) (fun hHeld=>?_);clear hK K;try simp only [Act.put,tq]
     refine dn ?_
     try go_wp2_with fail
     go_meet
     exact ⟨_,nm,rfl,_,_,_,_,_,_,_,_,_,LB.out.1⟩
    refine rl (fun K hK=>?_);go_simp;have PSBPA:=hid (PSBP.out.alloc (.cells #[.int .i64 0,.string ⟨#[]⟩,.int .i64 0,.int .i64 0,.int .i64 0,.slice none 0 0,.slice none 0 0] 38))
    have EA:(w2).heap.size=w2.heap.size:=by simp
    have RA:Hid (Bx ((w2).alloc (.cells #[.int .i64 0,.string ⟨#[]⟩,.int .i64 0,.int .i64 0,.int .i64 0,.slice none 0 0,.slice none 0 0] 38)) (w2.heap.size) 38 0 ⟨#[]⟩ 0 0 0 (.slice none 0 0) (.slice none 0 0)):=by rw [← EA];exact Bx.new _ _ _ _ _ _ _ _ _
    have RL:Hid (w.heap.size<w2.heap.size∧kS<w2.heap.size):=by rw [← EA];exact ⟨PSBP.out.size,PSBP.out.sg.lt⟩
    clear EA;refine hK.out _ _ (PSBPA.out.sg.cells) (fun hHeld=>?_);clear hK K;try simp only [Act.put,tq]
    clear hHeld;refine ry 5 (fun K hK=>?_);go_simp;refine (below4 cb ao n cap _ hn PSBPA.out.cur (HO.out.later PSBPA.out.gr) 4 (by decide) (by decide)).mono ?_;rintro e w3 ⟨y,hy,rfl,hc3,hg3⟩;have PSBPAQ:=hid (PSBPA.out.draw hg3 hc3);have HY:=hid hy;have RQ:=hid (RA.out.far hg3 (by have h1:=RL.out;have h2:=PSBPA.out.hi;omega));have fq:=RQ.out.loose;have cq:=RQ.out.cells;clear hc3 hg3 hy
    go_wp2_with fail
    refine hK.out _ _ (PSBPAQ.out.sg.cells) (fun hHeld=>?_);clear hK K;try simp only [Act.put,tq]
    refine tk 6 ?_;refine tk 7 ?_;clear hHeld;refine ry 9 (fun K hK=>?_);go_simp
    have hwr:IntKind.i64.wrap (1+(y:Int))=1+(y:Int):=by rw [IntKind.wrap_i64];have:=HY.out;omega
    rw [hwr];clear hwr;have LB:=hid (Lb.first PSBPAQ.out RQ.out RL.out.1 (fun e=>by have h1:=RL.out;omega) (dbx_start y (nm_three HNM.out) HTB.out (by have:=HY.out;omega)));refine hK.out _ _ (LB.out.2.cells) (fun hHeld=>?_);clear hK K;try simp only [Act.put,tq]
    refine dn ?_
    try go_wp2_with fail
    go_meet
    exact ⟨_,nm,rfl,_,_,_,_,_,_,_,_,_,LB.out.1⟩
   refine rl (fun K hK=>?_);go_simp;have PSBA:=hid (PSB.out.alloc (.cells #[.int .i64 0,.string ⟨#[]⟩,.int .i64 0,.int .i64 0,.int .i64 0,.slice none 0 0,.slice none 0 0] 38))
   have EA:(((W1.drew).alloc (.cells #[.string ⟨#[105,110,98,111,120]⟩,.string ⟨#[119,111,114,107]⟩,.string ⟨#[111,108,100,57]⟩] 9))).heap.size=W1.heap.size+1:=by simp
   have RA:Hid (Bx ((((W1.drew).alloc (.cells #[.string ⟨#[105,110,98,111,120]⟩,.string ⟨#[119,111,114,107]⟩,.string ⟨#[111,108,100,57]⟩] 9))).alloc (.cells #[.int .i64 0,.string ⟨#[]⟩,.int .i64 0,.int .i64 0,.int .i64 0,.slice none 0 0,.slice none 0 0] 38)) (W1.heap.size+1) 38 0 ⟨#[]⟩ 0 0 0 (.slice none 0 0) (.slice none 0 0)):=by rw [← EA];exact Bx.new _ _ _ _ _ _ _ _ _
   have RL:Hid (w.heap.size<W1.heap.size+1∧kS<W1.heap.size+1):=by rw [← EA];exact ⟨PSB.out.size,PSB.out.sg.lt⟩
   clear EA;have TB2:=hid ((Below.heap_alloc _ (.cells #[.int .i64 0,.string ⟨#[]⟩,.int .i64 0,.int .i64 0,.int .i64 0,.slice none 0 0,.slice none 0 0] 38) _ (Array.getElem?_eq_some_iff.1 TB.out).1).trans TB.out);refine hK.out _ _ (PSBA.out.sg.cells) (fun hHeld=>?_);clear hK K;try simp only [Act.put,tq]
   clear hHeld;refine ry 2 (fun K hK=>?_);go_simp;refine (pickm_any cb _ 3 [⟨#[105,110,98,111,120]⟩,⟨#[119,111,114,107]⟩,⟨#[111,108,100,57]⟩] ao n cap _ hn PSBA.out.cur (HO.out.later PSBA.out.gr) rfl (by decide) (by decide) TL.out (three_strs TB2.out)).mono ?_;rintro e w2 ⟨nm,hnm,rfl,hc2,hg2⟩;have PSBAP:=hid (PSBA.out.draw hg2 hc2);have HNM:=hid hnm;have RP:=hid (RA.out.far hg2 (by have h1:=RL.out;have h2:=PSBA.out.hi;omega));clear hc2 hg2 hnm
   go_wp2_with fail
   refine hK.out _ _ (PSBAP.out.sg.cells) (fun hHeld=>?_);clear hK K;try simp only [Act.put,tq]
   clear hHeld;refine ry 5 (fun K hK=>?_);go_simp;refine (below4 cb ao n cap _ hn PSBAP.out.cur (HO.out.later PSBAP.out.gr) 4 (by decide) (by decide)).mono ?_;rintro e w3 ⟨y,hy,rfl,hc3,hg3⟩;have PSBAPQ:=hid (PSBAP.out.draw hg3 hc3);have HY:=hid hy;have RQ:=hid (RP.out.far hg3 (by have h1:=RL.out;have h2:=PSBAP.out.hi;omega));have fq:=RQ.out.loose;have cq:=RQ.out.cells;clear hc3 hg3 hy
   go_wp2_with fail
   refine hK.out _ _ (PSBAPQ.out.sg.cells) (fun hHeld=>?_);clear hK K;try simp only [Act.put,tq]
   refine tk 6 ?_;refine tk 7 ?_;clear hHeld;refine ry 9 (fun K hK=>?_);go_simp
   have hwr:IntKind.i64.wrap (1+(y:Int))=1+(y:Int):=by rw [IntKind.wrap_i64];have:=HY.out;omega
   rw [hwr];clear hwr;have LB:=hid (Lb.first PSBAPQ.out RQ.out RL.out.1 (fun e=>by have h1:=RL.out;omega) (dbx_start y (nm_three HNM.out) HTB.out (by have:=HY.out;omega)));refine hK.out _ _ (LB.out.2.cells) (fun hHeld=>?_);clear hK K;try simp only [Act.put,tq]
   refine dn ?_
   try go_wp2_with fail
   go_meet
   exact ⟨_,nm,rfl,_,_,_,_,_,_,_,_,_,LB.out.1⟩
  refine rl (fun K hK=>?_);go_simp;have PSA:=hid (PS.out.alloc (.cells #[.int .i64 0,.string ⟨#[]⟩,.int .i64 0,.int .i64 0,.int .i64 0,.slice none 0 0,.slice none 0 0] 38))
  have EA:(W1.drew).heap.size=W1.heap.size:=by simp
  have RA:Hid (Bx ((W1.drew).alloc (.cells #[.int .i64 0,.string ⟨#[]⟩,.int .i64 0,.int .i64 0,.int .i64 0,.slice none 0 0,.slice none 0 0] 38)) (W1.heap.size) 38 0 ⟨#[]⟩ 0 0 0 (.slice none 0 0) (.slice none 0 0)):=by rw [← EA];exact Bx.new _ _ _ _ _ _ _ _ _
  have RL:Hid (w.heap.size<W1.heap.size∧kS<W1.heap.size):=by rw [← EA];exact ⟨PS.out.size,PS.out.sg.lt⟩
  clear EA;refine hK.out _ _ (PSA.out.sg.cells) (fun hHeld=>?_);clear hK K;try simp only [Act.put,tq]
  clear hHeld;refine ry 1 (fun K hK=>?_);go_simp;have PSAB:=hid (PSA.out.alloc (.cells #[.string ⟨#[105,110,98,111,120]⟩,.string ⟨#[119,111,114,107]⟩,.string ⟨#[111,108,100,57]⟩] 9))
  have EA:(((W1.drew).alloc (.cells #[.int .i64 0,.string ⟨#[]⟩,.int .i64 0,.int .i64 0,.int .i64 0,.slice none 0 0,.slice none 0 0] 38))).heap.size=W1.heap.size+1:=by simp
  have TB:Hid (((((W1.drew).alloc (.cells #[.int .i64 0,.string ⟨#[]⟩,.int .i64 0,.int .i64 0,.int .i64 0,.slice none 0 0,.slice none 0 0] 38))).alloc (.cells #[.string ⟨#[105,110,98,111,120]⟩,.string ⟨#[119,111,114,107]⟩,.string ⟨#[111,108,100,57]⟩] 9)).heap[W1.heap.size+1]?=some (.cells #[.string ⟨#[105,110,98,111,120]⟩,.string ⟨#[119,111,114,107]⟩,.string ⟨#[111,108,100,57]⟩] 9 (0,0))):=by rw [← EA];exact heap_alloc_new _ _
  have TL:Hid (W1.heap.size+1≠cb):=by rw [← EA];have h1:=PSA.out.size;have h2:=PSA.out.hi;show _≠_;omega
  clear EA;have RA2:=hid (RA.out.later (bpush (bre _) (.cells #[.string ⟨#[105,110,98,111,120]⟩,.string ⟨#[119,111,114,107]⟩,.string ⟨#[111,108,100,57]⟩] 9)));refine hK.out _ _ (PSAB.out.sg.cells) (fun hHeld=>?_);clear hK K;try simp only [Act.put,tq]
  clear hHeld;refine ry 2 (fun K hK=>?_);go_simp;refine (pickm_any cb _ 3 [⟨#[105,110,98,111,120]⟩,⟨#[119,111,114,107]⟩,⟨#[111,108,100,57]⟩] ao n cap _ hn PSAB.out.cur (HO.out.later PSAB.out.gr) rfl (by decide) (by decide) TL.out (three_strs TB.out)).mono ?_;rintro e w2 ⟨nm,hnm,rfl,hc2,hg2⟩;have PSABP:=hid (PSAB.out.draw hg2 hc2);have HNM:=hid hnm;have RP:=hid (RA2.out.far hg2 (by have h1:=RL.out;have h2:=PSAB.out.hi;omega));clear hc2 hg2 hnm
  go_wp2_with fail
  refine hK.out _ _ (PSABP.out.sg.cells) (fun hHeld=>?_);clear hK K;try simp only [Act.put,tq]
  clear hHeld;refine ry 5 (fun K hK=>?_);go_simp;refine (below4 cb ao n cap _ hn PSABP.out.cur (HO.out.later PSABP.out.gr) 4 (by decide) (by decide)).mono ?_;rintro e w3 ⟨y,hy,rfl,hc3,hg3⟩;have PSABPQ:=hid (PSABP.out.draw hg3 hc3);have HY:=hid hy;have RQ:=hid (RP.out.far hg3 (by have h1:=RL.out;have h2:=PSABP.out.hi;omega));have fq:=RQ.out.loose;have cq:=RQ.out.cells;clear hc3 hg3 hy
  go_wp2_with fail
  refine hK.out _ _ (PSABPQ.out.sg.cells) (fun hHeld=>?_);clear hK K;try simp only [Act.put,tq]
  refine tk 6 ?_;refine tk 7 ?_;clear hHeld;refine ry 9 (fun K hK=>?_);go_simp
  have hwr:IntKind.i64.wrap (1+(y:Int))=1+(y:Int):=by rw [IntKind.wrap_i64];have:=HY.out;omega
  rw [hwr];clear hwr;have LB:=hid (Lb.first PSABPQ.out RQ.out RL.out.1 (fun e=>by have h1:=RL.out;omega) (dbx_start y (nm_three HNM.out) HTB.out (by have:=HY.out;omega)));refine hK.out _ _ (LB.out.2.cells) (fun hHeld=>?_);clear hK K;try simp only [Act.put,tq]
  refine dn ?_
  try go_wp2_with fail
  go_meet
  exact ⟨_,nm,rfl,_,_,_,_,_,_,_,_,_,LB.out.1⟩
 case rest =>
  obtain ⟨kb,nm,rfl,hLx⟩:=hcut;have HLX:=hid hLx;clear hLx PS HTB
  go_wp2
  go_loopw [5] (fun iv wr=>∃ i:Nat,i≤11∧iv=.int .i64 (i:Int)∧Lx w wr cb ao n cap kb i nm t b) (fun iv _=>12 - (intOf iv).toNat)
  case atStart=>exact ⟨0,by omega,rfl,HLX.out⟩
  case round =>
   obtain ⟨i,hi,rfl,nx,ma,mn,mc,ga,gn,gc,L,G,hT⟩:=hrel;have T:=hid hT;clear hT HLX
   go_wp2_with fail
   refine (below4 cb ao n cap _ hn T.out.cur (HO.out.later T.out.gr) 12 (by decide) (by decide)).mono ?_;rintro e w2 ⟨x,hx,rfl,hc,hg⟩;have T2:=hid (T.out.draw hg hc);clear hc hg T
   by_cases hix:i<x
   ·have HX:Hid (i<11):=by show _<_;omega
    have hix':(i:Int)<(x:Int):=by omega
    clear hix hx
    go_wp2_with fail
    refine (below4 cb ao n cap _ hn T2.out.cur (HO.out.later T2.out.gr) 9 (by decide) (by decide)).mono ?_;rintro e w3 ⟨y,hy,rfl,hc,hg⟩;have HY:=hid hy;have T3:=hid (T2.out.draw hg hc);clear hc hg T2
    go_wp2_with fail
    clear hy;refine (l03Stamp_any cb ao n cap _ hn T3.out.cur (HO.out.later T3.out.gr)).mono ?_;rintro e w4 ⟨st,sb,hst,rfl,hc,hg⟩;have HST:=hid hst;obtain ⟨W4,hW4⟩:∃ W4,w4.alloc (.cells #[.int .i64 st,.int .i64 sb] 35)=W4:=⟨_,rfl⟩;obtain ⟨kt,hkt⟩:∃ kt,w4.heap.size=kt:=⟨_,rfl⟩;have t4:=T3.out.draw hg hc
    have T4:Hid (Lb w W4 cb ao n cap kb i nm t b nx ma mn mc ga gn gc L G):=by subst hW4;exact t4.later (bpush (bre _) _)
    have SG4:Hid (Sg W4 kt 35 st sb):=by subst hkt;subst hW4;exact Sg.new w4 _ st sb
    have KT:Hid (kt≠kb):=by have:=t4.box.lt;show _≠_;omega
    have KC:Hid (kt≠cb):=by have:=t4.cur.lt;show _≠_;omega
    clear hc hg hst t4 T3
    go_wp2_with fail
    try rw [hkt]
    try rw [hW4]
    clear hW4 hkt;refine (below4 cb ao n cap _ hn T4.out.cur (HO.out.later T4.out.gr) 5 (by decide) (by decide)).mono ?_;rintro e w5 ⟨z,hz,rfl,hc,hg⟩;have T5:Hid (Lb w w5.drew cb ao n cap kb i nm t b nx ma mn mc ga gn gc L G):=(T4.out.draw hg hc).drew;have T5s:=hid (T4.out.draw hg hc);have SG5:Hid (Sg w5.drew kt 35 st sb):=SG4.out.kept (gdr hg) KC.out;clear hc hg T4 SG4
    have hz5:z=0∨z=1∨z=2∨z=3∨z=4:=by omega
    clear hz
    rcases hz5 with rfl | rfl | rfl | rfl | rfl
    ·clear T5s
     go_wp2_with fail
     refine wp_region_noPanic ?_;refine wp_region_held_drew (S:=(fun W=>W.cell? ⟨kt,0,none⟩=some (.int .i64 st)∧W.cell? ⟨kt,1,none⟩=some (.int .i64 sb))) (by kernel_rfl) (SG5.out.cells) (fun hHeld=>?_);refine tk 1 ?_;refine tk 2 ?_;refine tk 4 ?_;refine tk 6 ?_;clear hHeld;refine wpAnyH_ready (rs:=[0,3]) (by kernel_rfl) (by simp) ?_;refine rc (fun K hK=>?_) ?_
     ·have q0:=T5.out.box.cells
      go_simp;clear q0;refine hK.out _ _ (SG5.out.cells) (fun hHeld=>?_);clear hK K;try simp only [Act.put,tq]
      clear hHeld;refine ry 3 (fun K hK=>?_);go_simp;refine (below4 cb ao n cap _ hn T5.out.cur (HO.out.later T5.out.gr) 8 (by decide) (by decide)).mono ?_;rintro e w6 ⟨fl,hfl,rfl,hc6,hg6⟩;have T6:=hid (T5.out.draw hg6 hc6);have SG6:=hid (SG5.out.kept hg6 KC.out);clear hc6 hg6 hfl
      go_wp2_with fail
      refine hK.out _ _ (SG6.out.cells) (fun hHeld=>?_);clear hK K;try simp only [Act.put,tq]
      clear hHeld;refine ry 5 (fun K hK=>?_);go_simp;refine (l05Text_any cb ao n cap _ hn T6.out.cur (HO.out.later T6.out.gr)).mono ?_;rintro e w7 ⟨tx,htx,rfl,hc7,hg7⟩;have T7:=hid (T6.out.draw hg7 hc7);have SG7:=hid (SG6.out.kept hg7 KC.out);have HTX:=hid htx;clear hc7 hg7 htx
      go_wp2_with fail
      refine hK.out _ _ (SG7.out.cells) (fun hHeld=>?_);clear hK K;try simp only [Act.put,tq]
      clear hHeld;refine ry 7 (fun K hK=>?_);go_simp;obtain ⟨p,ny,KL,N,hN,hD,hcall⟩:=add_l T7.out.dbx mn gn T7.out.reads.1.symm T7.out.reads.2.1.symm (10+(y:Int)) (fl:Int) tx st sb (by have:=HY.out;omega) HST.out (by have:=HTX.out;omega);refine (hcall.out _ _ _ _ ma mc ga gc _ T7.out.reads.2.2.1 T7.out.reads.2.2.2 T7.out.own.none.2).mono ?_;rintro e w8 ⟨a,c,a',c',rfl,ho8,hb8⟩;have T8:=hid (T7.out.later hb8);have SG8:=hid (SG7.out.later hb8);have f8:=T8.out.box.loose;have c8:=T8.out.box.cells;have NEW:=hid (T7.out.put hb8 ho8 hD.out);clear ho8 hb8 hN hcall
      go_wp2_with fail
      refine hK.out _ _ (SG8.out.cells) (fun hHeld=>?_);clear hK K;try simp only [Act.put,tq]
      refine tk 8 ?_;refine tk 9 ?_;refine tk 10 ?_;clear hHeld;refine ry 11 (fun K hK=>?_);go_simp;refine hK.out _ _ ((SG8.out.kept (cb:=kb) (wst (wst (wst (wst (wst (wst (wst (wre _ _) _ _) _ _) _ _) _ _) _ _) _ _) _ _) KT.out).cells) (fun hHeld=>?_);clear hK K;try simp only [Act.put,tq]
      refine dn ?_
      go_wp2
      go_roundw
      case rel=>exact ⟨i+1,by have:=HX.out;omega,by go_num,_,_,_,_,_,_,_,_,_,NEW.out⟩
      case measure=>simp [intOf];have:=HX.out;omega
     refine rl (fun K hK=>?_);go_simp;refine (below4 cb ao n cap _ hn T5.out.cur (HO.out.later T5.out.gr) 8 (by decide) (by decide)).mono ?_;rintro e w6 ⟨fl,hfl,rfl,hc6,hg6⟩;have T6:=hid (T5.out.draw hg6 hc6);have SG6:=hid (SG5.out.kept hg6 KC.out);clear hc6 hg6 hfl
     go_wp2_with fail
     refine hK.out _ _ (SG6.out.cells) (fun hHeld=>?_);clear hK K;try simp only [Act.put,tq]
     clear hHeld;refine wpAnyH_ready (rs:=[0,5]) (by kernel_rfl) (by simp) ?_;refine rc (fun K hK=>?_) ?_
     ·have q0:=T6.out.box.cells
      go_simp;clear q0;refine hK.out _ _ (SG6.out.cells) (fun hHeld=>?_);clear hK K;try simp only [Act.put,tq]
      clear hHeld;refine ry 5 (fun K hK=>?_);go_simp;refine (l05Text_any cb ao n cap _ hn T6.out.cur (HO.out.later T6.out.gr)).mono ?_;rintro e w7 ⟨tx,htx,rfl,hc7,hg7⟩;have T7:=hid (T6.out.draw hg7 hc7);have SG7:=hid (SG6.out.kept hg7 KC.out);have HTX:=hid htx;clear hc7 hg7 htx
      go_wp2_with fail
      refine hK.out _ _ (SG7.out.cells) (fun hHeld=>?_);clear hK K;try simp only [Act.put,tq]
      clear hHeld;refine ry 7 (fun K hK=>?_);go_simp;obtain ⟨p,ny,KL,N,hN,hD,hcall⟩:=add_l T7.out.dbx mn gn T7.out.reads.1.symm T7.out.reads.2.1.symm (10+(y:Int)) (fl:Int) tx st sb (by have:=HY.out;omega) HST.out (by have:=HTX.out;omega);refine (hcall.out _ _ _ _ ma mc ga gc _ T7.out.reads.2.2.1 T7.out.reads.2.2.2 T7.out.own.none.2).mono ?_;rintro e w8 ⟨a,c,a',c',rfl,ho8,hb8⟩;have T8:=hid (T7.out.later hb8);have SG8:=hid (SG7.out.later hb8);have f8:=T8.out.box.loose;have c8:=T8.out.box.cells;have NEW:=hid (T7.out.put hb8 ho8 hD.out);clear ho8 hb8 hN hcall
      go_wp2_with fail
      refine hK.out _ _ (SG8.out.cells) (fun hHeld=>?_);clear hK K;try simp only [Act.put,tq]
      refine tk 8 ?_;refine tk 9 ?_;refine tk 10 ?_;clear hHeld;refine ry 11 (fun K hK=>?_);go_simp;refine hK.out _ _ ((SG8.out.kept (cb:=kb) (wst (wst (wst (wst (wst (wst (wst (wre _ _) _ _) _ _) _ _) _ _) _ _) _ _) _ _) KT.out).cells) (fun hHeld=>?_);clear hK K;try simp only [Act.put,tq]
      refine dn ?_
      go_wp2
      go_roundw
      case rel=>exact ⟨i+1,by have:=HX.out;omega,by go_num,_,_,_,_,_,_,_,_,_,NEW.out⟩
      case measure=>simp [intOf];have:=HX.out;omega
     refine rl (fun K hK=>?_);go_simp;refine (l05Text_any cb ao n cap _ hn T6.out.cur (HO.out.later T6.out.gr)).mono ?_;rintro e w7 ⟨tx,htx,rfl,hc7,hg7⟩;have T7:=hid (T6.out.draw hg7 hc7);have SG7:=hid (SG6.out.kept hg7 KC.out);have HTX:=hid htx;clear hc7 hg7 htx
     go_wp2_with fail
     refine hK.out _ _ (SG7.out.cells) (fun hHeld=>?_);clear hK K;try simp only [Act.put,tq]
     clear hHeld;refine ry 0 (fun K hK=>?_);have q0:=T7.out.box.cells;go_simp;clear q0;refine hK.out _ _ (SG7.out.cells) (fun hHeld=>?_);clear hK K;try simp only [Act.put,tq]
     clear hHeld;refine ry 7 (fun K hK=>?_);go_simp;obtain ⟨p,ny,KL,N,hN,hD,hcall⟩:=add_l T7.out.dbx mn gn T7.out.reads.1.symm T7.out.reads.2.1.symm (10+(y:Int)) (fl:Int) tx st sb (by have:=HY.out;omega) HST.out (by have:=HTX.out;omega);refine (hcall.out _ _ _ _ ma mc ga gc _ T7.out.reads.2.2.1 T7.out.reads.2.2.2 T7.out.own.none.2).mono ?_;rintro e w8 ⟨a,c,a',c',rfl,ho8,hb8⟩;have T8:=hid (T7.out.later hb8);have SG8:=hid (SG7.out.later hb8);have f8:=T8.out.box.loose;have c8:=T8.out.box.cells;have NEW:=hid (T7.out.put hb8 ho8 hD.out);clear ho8 hb8 hN hcall
     go_wp2_with fail
     refine hK.out _ _ (SG8.out.cells) (fun hHeld=>?_);clear hK K;try simp only [Act.put,tq]
     refine tk 8 ?_;refine tk 9 ?_;refine tk 10 ?_;clear hHeld;refine ry 11 (fun K hK=>?_);go_simp;refine hK.out _ _ ((SG8.out.kept (cb:=kb) (wst (wst (wst (wst (wst (wst (wst (wre _ _) _ _) _ _) _ _) _ _) _ _) _ _) _ _) KT.out).cells) (fun hHeld=>?_);clear hK K;try simp only [Act.put,tq]
     refine dn ?_
     go_wp2
     go_roundw
     case rel=>exact ⟨i+1,by have:=HX.out;omega,by go_num,_,_,_,_,_,_,_,_,_,NEW.out⟩
     case measure=>simp [intOf];have:=HX.out;omega
    ·clear T5s
     go_wp2_with fail
     refine wp_region_noPanic ?_;refine wp_region_held_drew (S:=(fun W=>W.cell? ⟨kt,0,none⟩=some (.int .i64 st)∧W.cell? ⟨kt,1,none⟩=some (.int .i64 sb))) (by kernel_rfl) (SG5.out.cells) (fun hHeld=>?_);refine tk 1 ?_;refine tk 2 ?_;refine tk 4 ?_;refine tk 6 ?_;clear hHeld;refine wpAnyH_ready (rs:=[0,3]) (by kernel_rfl) (by simp) ?_;refine rc (fun K hK=>?_) ?_
     ·have q0:=T5.out.box.cells
      go_simp;clear q0;refine hK.out _ _ (SG5.out.cells) (fun hHeld=>?_);clear hK K;try simp only [Act.put,tq]
      clear hHeld;refine ry 3 (fun K hK=>?_);go_simp;refine (below4 cb ao n cap _ hn T5.out.cur (HO.out.later T5.out.gr) 8 (by decide) (by decide)).mono ?_;rintro e w6 ⟨fl,hfl,rfl,hc6,hg6⟩;have T6:=hid (T5.out.draw hg6 hc6);have SG6:=hid (SG5.out.kept hg6 KC.out);clear hc6 hg6 hfl
      go_wp2_with fail
      refine hK.out _ _ (SG6.out.cells) (fun hHeld=>?_);clear hK K;try simp only [Act.put,tq]
      clear hHeld;refine ry 5 (fun K hK=>?_);go_simp;refine (l05Text_any cb ao n cap _ hn T6.out.cur (HO.out.later T6.out.gr)).mono ?_;rintro e w7 ⟨tx,htx,rfl,hc7,hg7⟩;have T7:=hid (T6.out.draw hg7 hc7);have SG7:=hid (SG6.out.kept hg7 KC.out);have HTX:=hid htx;clear hc7 hg7 htx
      go_wp2_with fail
      refine hK.out _ _ (SG7.out.cells) (fun hHeld=>?_);clear hK K;try simp only [Act.put,tq]
      clear hHeld;refine ry 7 (fun K hK=>?_);go_simp;obtain ⟨p,ny,KL,N,hN,hD,hcall⟩:=add_l T7.out.dbx mn gn T7.out.reads.1.symm T7.out.reads.2.1.symm (10+(y:Int)) (fl:Int) tx st sb (by have:=HY.out;omega) HST.out (by have:=HTX.out;omega);refine (hcall.out _ _ _ _ ma mc ga gc _ T7.out.reads.2.2.1 T7.out.reads.2.2.2 T7.out.own.none.2).mono ?_;rintro e w8 ⟨a,c,a',c',rfl,ho8,hb8⟩;have T8:=hid (T7.out.later hb8);have SG8:=hid (SG7.out.later hb8);have f8:=T8.out.box.loose;have c8:=T8.out.box.cells;have NEW:=hid (T7.out.put hb8 ho8 hD.out);clear ho8 hb8 hN hcall
      go_wp2_with fail
      refine hK.out _ _ (SG8.out.cells) (fun hHeld=>?_);clear hK K;try simp only [Act.put,tq]
      refine tk 8 ?_;refine tk 9 ?_;refine tk 10 ?_;clear hHeld;refine ry 11 (fun K hK=>?_);go_simp;refine hK.out _ _ ((SG8.out.kept (cb:=kb) (wst (wst (wst (wst (wst (wst (wst (wre _ _) _ _) _ _) _ _) _ _) _ _) _ _) _ _) KT.out).cells) (fun hHeld=>?_);clear hK K;try simp only [Act.put,tq]
      refine dn ?_
      go_wp2
      go_roundw
      case rel=>exact ⟨i+1,by have:=HX.out;omega,by go_num,_,_,_,_,_,_,_,_,_,NEW.out⟩
      case measure=>simp [intOf];have:=HX.out;omega
     refine rl (fun K hK=>?_);go_simp;refine (below4 cb ao n cap _ hn T5.out.cur (HO.out.later T5.out.gr) 8 (by decide) (by decide)).mono ?_;rintro e w6 ⟨fl,hfl,rfl,hc6,hg6⟩;have T6:=hid (T5.out.draw hg6 hc6);have SG6:=hid (SG5.out.kept hg6 KC.out);clear hc6 hg6 hfl
     go_wp2_with fail
     refine hK.out _ _ (SG6.out.cells) (fun hHeld=>?_);clear hK K;try simp only [Act.put,tq]
     clear hHeld;refine wpAnyH_ready (rs:=[0,5]) (by kernel_rfl) (by simp) ?_;refine rc (fun K hK=>?_) ?_
     ·have q0:=T6.out.box.cells
      go_simp;clear q0;refine hK.out _ _ (SG6.out.cells) (fun hHeld=>?_);clear hK K;try simp only [Act.put,tq]
      clear hHeld;refine ry 5 (fun K hK=>?_);go_simp;refine (l05Text_any cb ao n cap _ hn T6.out.cur (HO.out.later T6.out.gr)).mono ?_;rintro e w7 ⟨tx,htx,rfl,hc7,hg7⟩;have T7:=hid (T6.out.draw hg7 hc7);have SG7:=hid (SG6.out.kept hg7 KC.out);have HTX:=hid htx;clear hc7 hg7 htx
      go_wp2_with fail
      refine hK.out _ _ (SG7.out.cells) (fun hHeld=>?_);clear hK K;try simp only [Act.put,tq]
      clear hHeld;refine ry 7 (fun K hK=>?_);go_simp;obtain ⟨p,ny,KL,N,hN,hD,hcall⟩:=add_l T7.out.dbx mn gn T7.out.reads.1.symm T7.out.reads.2.1.symm (10+(y:Int)) (fl:Int) tx st sb (by have:=HY.out;omega) HST.out (by have:=HTX.out;omega);refine (hcall.out _ _ _ _ ma mc ga gc _ T7.out.reads.2.2.1 T7.out.reads.2.2.2 T7.out.own.none.2).mono ?_;rintro e w8 ⟨a,c,a',c',rfl,ho8,hb8⟩;have T8:=hid (T7.out.later hb8);have SG8:=hid (SG7.out.later hb8);have f8:=T8.out.box.loose;have c8:=T8.out.box.cells;have NEW:=hid (T7.out.put hb8 ho8 hD.out);clear ho8 hb8 hN hcall
      go_wp2_with fail
      refine hK.out _ _ (SG8.out.cells) (fun hHeld=>?_);clear hK K;try simp only [Act.put,tq]
      refine tk 8 ?_;refine tk 9 ?_;refine tk 10 ?_;clear hHeld;refine ry 11 (fun K hK=>?_);go_simp;refine hK.out _ _ ((SG8.out.kept (cb:=kb) (wst (wst (wst (wst (wst (wst (wst (wre _ _) _ _) _ _) _ _) _ _) _ _) _ _) _ _) KT.out).cells) (fun hHeld=>?_);clear hK K;try simp only [Act.put,tq]
      refine dn ?_
      go_wp2
      go_roundw
      case rel=>exact ⟨i+1,by have:=HX.out;omega,by go_num,_,_,_,_,_,_,_,_,_,NEW.out⟩
      case measure=>simp [intOf];have:=HX.out;omega
     refine rl (fun K hK=>?_);go_simp;refine (l05Text_any cb ao n cap _ hn T6.out.cur (HO.out.later T6.out.gr)).mono ?_;rintro e w7 ⟨tx,htx,rfl,hc7,hg7⟩;have T7:=hid (T6.out.draw hg7 hc7);have SG7:=hid (SG6.out.kept hg7 KC.out);have HTX:=hid htx;clear hc7 hg7 htx
     go_wp2_with fail
     refine hK.out _ _ (SG7.out.cells) (fun hHeld=>?_);clear hK K;try simp only [Act.put,tq]
     clear hHeld;refine ry 0 (fun K hK=>?_);have q0:=T7.out.box.cells;go_simp;clear q0;refine hK.out _ _ (SG7.out.cells) (fun hHeld=>?_);clear hK K;try simp only [Act.put,tq]
     clear hHeld;refine ry 7 (fun K hK=>?_);go_simp;obtain ⟨p,ny,KL,N,hN,hD,hcall⟩:=add_l T7.out.dbx mn gn T7.out.reads.1.symm T7.out.reads.2.1.symm (10+(y:Int)) (fl:Int) tx st sb (by have:=HY.out;omega) HST.out (by have:=HTX.out;omega);refine (hcall.out _ _ _ _ ma mc ga gc _ T7.out.reads.2.2.1 T7.out.reads.2.2.2 T7.out.own.none.2).mono ?_;rintro e w8 ⟨a,c,a',c',rfl,ho8,hb8⟩;have T8:=hid (T7.out.later hb8);have SG8:=hid (SG7.out.later hb8);have f8:=T8.out.box.loose;have c8:=T8.out.box.cells;have NEW:=hid (T7.out.put hb8 ho8 hD.out);clear ho8 hb8 hN hcall
     go_wp2_with fail
     refine hK.out _ _ (SG8.out.cells) (fun hHeld=>?_);clear hK K;try simp only [Act.put,tq]
     refine tk 8 ?_;refine tk 9 ?_;refine tk 10 ?_;clear hHeld;refine ry 11 (fun K hK=>?_);go_simp;refine hK.out _ _ ((SG8.out.kept (cb:=kb) (wst (wst (wst (wst (wst (wst (wst (wre _ _) _ _) _ _) _ _) _ _) _ _) _ _) _ _) KT.out).cells) (fun hHeld=>?_);clear hK K;try simp only [Act.put,tq]
     refine dn ?_
     go_wp2
     go_roundw
     case rel=>exact ⟨i+1,by have:=HX.out;omega,by go_num,_,_,_,_,_,_,_,_,_,NEW.out⟩
     case measure=>simp [intOf];have:=HX.out;omega
    ·clear T5s
     go_wp2_with fail
     refine wp_region_noPanic ?_;refine wp_region_held_drew (S:=(fun W=>W.cell? ⟨kt,0,none⟩=some (.int .i64 st)∧W.cell? ⟨kt,1,none⟩=some (.int .i64 sb))) (by kernel_rfl) (SG5.out.cells) (fun hHeld=>?_);refine tk 1 ?_;refine tk 2 ?_;refine tk 4 ?_;refine tk 6 ?_;clear hHeld;refine wpAnyH_ready (rs:=[0,3]) (by kernel_rfl) (by simp) ?_;refine rc (fun K hK=>?_) ?_
     ·have q0:=T5.out.box.cells
      go_simp;clear q0;refine hK.out _ _ (SG5.out.cells) (fun hHeld=>?_);clear hK K;try simp only [Act.put,tq]
      clear hHeld;refine ry 3 (fun K hK=>?_);go_simp;refine (below4 cb ao n cap _ hn T5.out.cur (HO.out.later T5.out.gr) 8 (by decide) (by decide)).mono ?_;rintro e w6 ⟨fl,hfl,rfl,hc6,hg6⟩;have T6:=hid (T5.out.draw hg6 hc6);have SG6:=hid (SG5.out.kept hg6 KC.out);clear hc6 hg6 hfl
      go_wp2_with fail
      refine hK.out _ _ (SG6.out.cells) (fun hHeld=>?_);clear hK K;try simp only [Act.put,tq]
      clear hHeld;refine ry 5 (fun K hK=>?_);go_simp;refine (l05Text_any cb ao n cap _ hn T6.out.cur (HO.out.later T6.out.gr)).mono ?_;rintro e w7 ⟨tx,htx,rfl,hc7,hg7⟩;have T7:=hid (T6.out.draw hg7 hc7);have SG7:=hid (SG6.out.kept hg7 KC.out);have HTX:=hid htx;clear hc7 hg7 htx
      go_wp2_with fail
      refine hK.out _ _ (SG7.out.cells) (fun hHeld=>?_);clear hK K;try simp only [Act.put,tq]
      clear hHeld;refine ry 7 (fun K hK=>?_);go_simp;obtain ⟨p,ny,KL,N,hN,hD,hcall⟩:=add_l T7.out.dbx mn gn T7.out.reads.1.symm T7.out.reads.2.1.symm (10+(y:Int)) (fl:Int) tx st sb (by have:=HY.out;omega) HST.out (by have:=HTX.out;omega);refine (hcall.out _ _ _ _ ma mc ga gc _ T7.out.reads.2.2.1 T7.out.reads.2.2.2 T7.out.own.none.2).mono ?_;rintro e w8 ⟨a,c,a',c',rfl,ho8,hb8⟩;have T8:=hid (T7.out.later hb8);have SG8:=hid (SG7.out.later hb8);have f8:=T8.out.box.loose;have c8:=T8.out.box.cells;have NEW:=hid (T7.out.put hb8 ho8 hD.out);clear ho8 hb8 hN hcall
      go_wp2_with fail
      refine hK.out _ _ (SG8.out.cells) (fun hHeld=>?_);clear hK K;try simp only [Act.put,tq]
      refine tk 8 ?_;refine tk 9 ?_;refine tk 10 ?_;clear hHeld;refine ry 11 (fun K hK=>?_);go_simp;refine hK.out _ _ ((SG8.out.kept (cb:=kb) (wst (wst (wst (wst (wst (wst (wst (wre _ _) _ _) _ _) _ _) _ _) _ _) _ _) _ _) KT.out).cells) (fun hHeld=>?_);clear hK K;try simp only [Act.put,tq]
      refine dn ?_
      go_wp2
      go_roundw
      case rel=>exact ⟨i+1,by have:=HX.out;omega,by go_num,_,_,_,_,_,_,_,_,_,NEW.out⟩
      case measure=>simp [intOf];have:=HX.out;omega
     refine rl (fun K hK=>?_);go_simp;refine (below4 cb ao n cap _ hn T5.out.cur (HO.out.later T5.out.gr) 8 (by decide) (by decide)).mono ?_;rintro e w6 ⟨fl,hfl,rfl,hc6,hg6⟩;have T6:=hid (T5.out.draw hg6 hc6);have SG6:=hid (SG5.out.kept hg6 KC.out);clear hc6 hg6 hfl
     go_wp2_with fail
     refine hK.out _ _ (SG6.out.cells) (fun hHeld=>?_);clear hK K;try simp only [Act.put,tq]
     clear hHeld;refine wpAnyH_ready (rs:=[0,5]) (by kernel_rfl) (by simp) ?_;refine rc (fun K hK=>?_) ?_
     ·have q0:=T6.out.box.cells
      go_simp;clear q0;refine hK.out _ _ (SG6.out.cells) (fun hHeld=>?_);clear hK K;try simp only [Act.put,tq]
      clear hHeld;refine ry 5 (fun K hK=>?_);go_simp;refine (l05Text_any cb ao n cap _ hn T6.out.cur (HO.out.later T6.out.gr)).mono ?_;rintro e w7 ⟨tx,htx,rfl,hc7,hg7⟩;have T7:=hid (T6.out.draw hg7 hc7);have SG7:=hid (SG6.out.kept hg7 KC.out);have HTX:=hid htx;clear hc7 hg7 htx
      go_wp2_with fail
      refine hK.out _ _ (SG7.out.cells) (fun hHeld=>?_);clear hK K;try simp only [Act.put,tq]
      clear hHeld;refine ry 7 (fun K hK=>?_);go_simp;obtain ⟨p,ny,KL,N,hN,hD,hcall⟩:=add_l T7.out.dbx mn gn T7.out.reads.1.symm T7.out.reads.2.1.symm (10+(y:Int)) (fl:Int) tx st sb (by have:=HY.out;omega) HST.out (by have:=HTX.out;omega);refine (hcall.out _ _ _ _ ma mc ga gc _ T7.out.reads.2.2.1 T7.out.reads.2.2.2 T7.out.own.none.2).mono ?_;rintro e w8 ⟨a,c,a',c',rfl,ho8,hb8⟩;have T8:=hid (T7.out.later hb8);have SG8:=hid (SG7.out.later hb8);have f8:=T8.out.box.loose;have c8:=T8.out.box.cells;have NEW:=hid (T7.out.put hb8 ho8 hD.out);clear ho8 hb8 hN hcall
      go_wp2_with fail
      refine hK.out _ _ (SG8.out.cells) (fun hHeld=>?_);clear hK K;try simp only [Act.put,tq]
      refine tk 8 ?_;refine tk 9 ?_;refine tk 10 ?_;clear hHeld;refine ry 11 (fun K hK=>?_);go_simp;refine hK.out _ _ ((SG8.out.kept (cb:=kb) (wst (wst (wst (wst (wst (wst (wst (wre _ _) _ _) _ _) _ _) _ _) _ _) _ _) _ _) KT.out).cells) (fun hHeld=>?_);clear hK K;try simp only [Act.put,tq]
      refine dn ?_
      go_wp2
      go_roundw
      case rel=>exact ⟨i+1,by have:=HX.out;omega,by go_num,_,_,_,_,_,_,_,_,_,NEW.out⟩
      case measure=>simp [intOf];have:=HX.out;omega
     refine rl (fun K hK=>?_);go_simp;refine (l05Text_any cb ao n cap _ hn T6.out.cur (HO.out.later T6.out.gr)).mono ?_;rintro e w7 ⟨tx,htx,rfl,hc7,hg7⟩;have T7:=hid (T6.out.draw hg7 hc7);have SG7:=hid (SG6.out.kept hg7 KC.out);have HTX:=hid htx;clear hc7 hg7 htx
     go_wp2_with fail
     refine hK.out _ _ (SG7.out.cells) (fun hHeld=>?_);clear hK K;try simp only [Act.put,tq]
     clear hHeld;refine ry 0 (fun K hK=>?_);have q0:=T7.out.box.cells;go_simp;clear q0;refine hK.out _ _ (SG7.out.cells) (fun hHeld=>?_);clear hK K;try simp only [Act.put,tq]
     clear hHeld;refine ry 7 (fun K hK=>?_);go_simp;obtain ⟨p,ny,KL,N,hN,hD,hcall⟩:=add_l T7.out.dbx mn gn T7.out.reads.1.symm T7.out.reads.2.1.symm (10+(y:Int)) (fl:Int) tx st sb (by have:=HY.out;omega) HST.out (by have:=HTX.out;omega);refine (hcall.out _ _ _ _ ma mc ga gc _ T7.out.reads.2.2.1 T7.out.reads.2.2.2 T7.out.own.none.2).mono ?_;rintro e w8 ⟨a,c,a',c',rfl,ho8,hb8⟩;have T8:=hid (T7.out.later hb8);have SG8:=hid (SG7.out.later hb8);have f8:=T8.out.box.loose;have c8:=T8.out.box.cells;have NEW:=hid (T7.out.put hb8 ho8 hD.out);clear ho8 hb8 hN hcall
     go_wp2_with fail
     refine hK.out _ _ (SG8.out.cells) (fun hHeld=>?_);clear hK K;try simp only [Act.put,tq]
     refine tk 8 ?_;refine tk 9 ?_;refine tk 10 ?_;clear hHeld;refine ry 11 (fun K hK=>?_);go_simp;refine hK.out _ _ ((SG8.out.kept (cb:=kb) (wst (wst (wst (wst (wst (wst (wst (wre _ _) _ _) _ _) _ _) _ _) _ _) _ _) _ _) KT.out).cells) (fun hHeld=>?_);clear hK K;try simp only [Act.put,tq]
     refine dn ?_
     go_wp2
     go_roundw
     case rel=>exact ⟨i+1,by have:=HX.out;omega,by go_num,_,_,_,_,_,_,_,_,_,NEW.out⟩
     case measure=>simp [intOf];have:=HX.out;omega
    ·clear T5s
     go_wp2_with fail
     refine wp_region_noPanic ?_;refine wp_region_held_drew (S:=(fun W=>W.cell? ⟨kt,0,none⟩=some (.int .i64 st)∧W.cell? ⟨kt,1,none⟩=some (.int .i64 sb))) (by kernel_rfl) (SG5.out.cells) (fun hHeld=>?_);refine tk 1 ?_;refine tk 2 ?_;refine tk 4 ?_;clear hHeld;refine wpAnyH_ready (rs:=[0,3]) (by kernel_rfl) (by simp) ?_;refine rc (fun K hK=>?_) ?_
     ·have q0:=T5.out.box.cells
      go_simp;clear q0;refine hK.out _ _ (SG5.out.cells) (fun hHeld=>?_);clear hK K;try simp only [Act.put,tq]
      clear hHeld;refine ry 3 (fun K hK=>?_);go_simp;refine (below4 cb ao n cap _ hn T5.out.cur (HO.out.later T5.out.gr) 8 (by decide) (by decide)).mono ?_;rintro e w6 ⟨fl,hfl,rfl,hc6,hg6⟩;have T6:=hid (T5.out.draw hg6 hc6);have SG6:=hid (SG5.out.kept hg6 KC.out);clear hc6 hg6 hfl
      go_wp2_with fail
      refine hK.out _ _ (SG6.out.cells) (fun hHeld=>?_);clear hK K;try simp only [Act.put,tq]
      clear hHeld;refine ry 5 (fun K hK=>?_);go_simp;obtain ⟨p,KL,hN,hD,hcall⟩:=flag_l T6.out.dbx mn gn T6.out.reads.1.symm T6.out.reads.2.1.symm (10+(y:Int)) (fl:Int) st sb HST.out;refine (hcall.out _ _ _ _ ma mc ga gc _ T6.out.reads.2.2.1 T6.out.reads.2.2.2 T6.out.own.none.2).mono ?_;rintro e w8 ⟨a,c,a',c',rfl,ho8,hb8⟩;have T8:=hid (T6.out.later hb8);have SG8:=hid (SG6.out.later hb8);have f8:=T8.out.box.loose;have c8:=T8.out.box.cells;have NEW:=hid (T6.out.put hb8 ho8 hD.out);clear ho8 hb8 hN hcall
      go_wp2_with fail
      refine hK.out _ _ (SG8.out.cells) (fun hHeld=>?_);clear hK K;try simp only [Act.put,tq]
      refine tk 6 ?_;refine tk 7 ?_;refine tk 8 ?_;clear hHeld;refine ry 9 (fun K hK=>?_);go_simp;refine hK.out _ _ ((SG8.out.kept (cb:=kb) (wst (wst (wst (wst (wst (wst (wst (wre _ _) _ _) _ _) _ _) _ _) _ _) _ _) _ _) KT.out).cells) (fun hHeld=>?_);clear hK K;try simp only [Act.put,tq]
      refine dn ?_
      go_wp2
      go_roundw
      case rel=>exact ⟨i+1,by have:=HX.out;omega,by go_num,_,_,_,_,_,_,_,_,_,NEW.out⟩
      case measure=>simp [intOf];have:=HX.out;omega
     refine rl (fun K hK=>?_);go_simp;refine (below4 cb ao n cap _ hn T5.out.cur (HO.out.later T5.out.gr) 8 (by decide) (by decide)).mono ?_;rintro e w6 ⟨fl,hfl,rfl,hc6,hg6⟩;have T6:=hid (T5.out.draw hg6 hc6);have SG6:=hid (SG5.out.kept hg6 KC.out);clear hc6 hg6 hfl
     go_wp2_with fail
     refine hK.out _ _ (SG6.out.cells) (fun hHeld=>?_);clear hK K;try simp only [Act.put,tq]
     clear hHeld;refine ry 0 (fun K hK=>?_);have q0:=T6.out.box.cells;go_simp;clear q0;refine hK.out _ _ (SG6.out.cells) (fun hHeld=>?_);clear hK K;try simp only [Act.put,tq]
     clear hHeld;refine ry 5 (fun K hK=>?_);go_simp;obtain ⟨p,KL,hN,hD,hcall⟩:=flag_l T6.out.dbx mn gn T6.out.reads.1.symm T6.out.reads.2.1.symm (10+(y:Int)) (fl:Int) st sb HST.out;refine (hcall.out _ _ _ _ ma mc ga gc _ T6.out.reads.2.2.1 T6.out.reads.2.2.2 T6.out.own.none.2).mono ?_;rintro e w8 ⟨a,c,a',c',rfl,ho8,hb8⟩;have T8:=hid (T6.out.later hb8);have SG8:=hid (SG6.out.later hb8);have f8:=T8.out.box.loose;have c8:=T8.out.box.cells;have NEW:=hid (T6.out.put hb8 ho8 hD.out);clear ho8 hb8 hN hcall
     go_wp2_with fail
     refine hK.out _ _ (SG8.out.cells) (fun hHeld=>?_);clear hK K;try simp only [Act.put,tq]
     refine tk 6 ?_;refine tk 7 ?_;refine tk 8 ?_;clear hHeld;refine ry 9 (fun K hK=>?_);go_simp;refine hK.out _ _ ((SG8.out.kept (cb:=kb) (wst (wst (wst (wst (wst (wst (wst (wre _ _) _ _) _ _) _ _) _ _) _ _) _ _) _ _) KT.out).cells) (fun hHeld=>?_);clear hK K;try simp only [Act.put,tq]
     refine dn ?_
     go_wp2
     go_roundw
     case rel=>exact ⟨i+1,by have:=HX.out;omega,by go_num,_,_,_,_,_,_,_,_,_,NEW.out⟩
     case measure=>simp [intOf];have:=HX.out;omega
    have q0:=T5s.out.box.cells;clear T5
    go_wp2_with fail
    obtain ⟨p,K,H,N,M,hN,hM,hD,hcall⟩:=take_l T5s.out.dbx mn gn T5s.out.reads.1.symm T5s.out.reads.2.1.symm (10+(y:Int)) (by have:=HY.out;omega);refine (hcall.out _ _ _ _ ma mc ga gc _ T5s.out.reads.2.2.1 T5s.out.reads.2.2.2 T5s.out.own.none.2).mono ?_;rintro e w8 ⟨a,c,a',c',rfl,ho8,hb8⟩;have f8:=(T5s.out.later hb8).box.loose;have q8:=(T5s.out.later hb8).box.cells;have NEW:=hid (T5s.out.put hb8 ho8 hD.out);clear ho8 hb8 hN hM hcall q0
    go_wp2
    go_roundw
    case rel=>exact ⟨i+1,by have:=HX.out;omega,by go_num,_,_,_,_,_,_,_,_,_,NEW.out⟩
    case measure=>simp [intOf];have:=HX.out;omega
   have hix':¬ (i:Int)<(x:Int):=by omega
   have q0:=T2.out.box.cells;have q1:=T2.out.res.cells;have f1:=T2.out.res.loose;clear hix hx
   go_wp2
   have e2:=set7_grown w2 w.heap.size 7 nm t b nx (.slice ma mn mc) (.slice ga gn gc);have d1:=(T2.out.res.set7 7 nm t b nx (.slice ma mn mc) (.slice ga gn gc)).cells
   have e3:w.grownBy (set7 w2 w.heap.size 7 nm t b nx (.slice ma mn mc) (.slice ga gn gc)) (some cb):=by
    unfold set7;exact gset (gset (gset (gset (gset (gset (gset T2.out.gr (Nat.le_refl _) _ _) (Nat.le_refl _) _ _) (Nat.le_refl _) _ _) (Nat.le_refl _) _ _) (Nat.le_refl _) _ _) (Nat.le_refl _) _ _) (Nat.le_refl _) _ _
   have h3:=T2.out.hi;have h4:=T2.out.lo
   have e4:Cur (set7 w2 w.heap.size 7 nm t b nx (.slice ma mn mc) (.slice ga gn gc)) cb ao n cap:=by
    unfold set7;exact ((((((T2.out.cur.set (by omega)).set (by omega)).set (by omega)).set (by omega)).set (by omega)).set (by omega)).set (by omega)
   unfold set7 at d1 e2 e3 e4;refine bodyPost_ret (v:=.agg #[.int .i64 7,.string nm,.int .i64 t,.int .i64 b,.int .i64 nx,.slice ma mn mc,.slice ga gn gc]) (by simp [results,Tryz.results94,go_sem,d1]) rfl ⟨nm,t,b,nx,ma,mn,mc,ga,gn,gc,L,G,rfl,T2.out.dbx.mono (by omega),?_,e4,e3⟩;exact (OwB.grown T2.out.own e2 (by omega)).base (by omega)
end Go.Proofs.YtdkedgedkgabnaaGreatDoor
