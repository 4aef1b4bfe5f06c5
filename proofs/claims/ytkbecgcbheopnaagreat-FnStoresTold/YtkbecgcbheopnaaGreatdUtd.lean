/- Utd. -/

import Derived.Test.YtkbecgcbheopnaaGreatdUtc
namespace Go.Proofs.YtkbecgcbheopnaaGreat
open Go.RowKit Go.ChangeMaps
set_option maxHeartbeats 1600000 in
set_option maxRecDepth 100000 in
theorem l09Box_any (l1 h1 l2 h2 l3 h3 l4 h4:Nat) (g:Int) (nm:ByteArray) (t b nx:Int) (ma:Option Addr) (mn mc:Nat) (ga:Option Addr) (gn gc:Nat) (ma':Option Addr) (mc':Nat) (ga':Option Addr) (gc':Nat) (L:List M4) (G:List Int) (w:World) (hl:L.length=mn) (hn:mn≤1048576) (hsm:Sm L) (hm:Ms l1 h1 w ma L) (hm':Ms l2 h2 w ma' L)
  (hgl:G.length=gn) (hgn:gn≤1048576) (hs:Is l3 h3 w ga G) (hs':Is l4 h4 w ga' G) :
  Calls Tryz.prog 126 #[.agg #[.int .i64 g,.string nm,.int .i64 t,.int .i64 b,.int .i64 nx,.slice ma mn mc,.slice ga gn gc],.agg #[.int .i64 g,.string nm,.int .i64 t,.int .i64 b,.int .i64 nx,.slice ma' mn mc',.slice ga' gn gc']] w fun e w'=>e=.returned (.bool true)∧Below w.heap.size w w':=by
 obtain ⟨W0,hW0⟩:∃ W0,((w.alloc (.cells #[.int .i64 g,.string nm,.int .i64 t,.int .i64 b,.int .i64 nx,.slice ma mn mc,.slice ga gn gc] 37)).alloc (.cells #[.int .i64 g,.string nm,.int .i64 t,.int .i64 b,.int .i64 nx,.slice ma' mn mc',.slice ga' gn gc'] 37))=W0:=⟨_,rfl⟩
 obtain ⟨a0,a1,b0,_⟩:=two_boxes w _ _ _ _ _ _ _ _ _ _ _ _ _ _ _ _ W0 hW0
 have A0:=hid a0
 have A1:=hid a1
 have B0:=hid b0
 have c0:=a0.cells
 have c1:=a1.cells
 have HM:=hid hm
 have HM':=hid hm'
 have HS:=hid hs
 have HS':=hid hs'
 have HX:=hid hsm
 have HL:=hid hl
 have e1:(g != g)=false:=by simp
 have e2:(nx != nx)=false:=by simp
 have e3:(!nm.toList == nm.toList)=false:=by simp
 have e4:(t != t)=false:=by simp
 have e5:(b != b)=false:=by simp
 have e6:((mn:Int) != (mn:Int))=false:=by simp
 clear a0 a1 b0 hm hm' hs hs' hsm hl
 go_enter Tryz.func126,Tryz.ntmps126
 have e7:((gn:Int) != (gn:Int))=false:=by simp
 go_wp2
 clear c0 c1 e1 e2 e3 e4 e5 e6 e7
 try rw [hW0]
 clear hW0
 go_loopw [5] (fun iv wr=>∃ i:Nat,i≤mn∧iv=.int .i64 (i:Int)∧Bx wr w.heap.size 37 g nm t b nx (.slice ma mn mc) (.slice ga gn gc)∧Bx wr (w.heap.size+1) 37 g nm t b nx (.slice ma' mn mc') (.slice ga' gn gc')∧Below w.heap.size w wr) (fun iv _=>mn - (intOf iv).toNat)
 case atStart=>exact ⟨0,Nat.zero_le _,rfl,A0.out,A1.out,B0.out⟩
 case round =>
  obtain ⟨i,hi,rfl,hk0,hk1,hb⟩:=hrel
  have A0:=hid hk0
  have A1:=hid hk1
  have HBE:=hid hb
  have c0:=hk0.cells
  clear hk0 hk1 hb B0
  by_cases hlt:i<mn
  ·have hil:i<L.length:=by rw [HL.out];exact hlt
   obtain ⟨k,o,fa,fc,rfl,hk,c,hr1,_⟩:=(HM.out.later HBE.out).at hil
   obtain ⟨k',o',fa',fc',rfl,hk',d,hr2,_⟩:=(HM'.out.later HBE.out).at hil
   have hmem:=HX.out L[i] (List.getElem_mem hil)
   obtain ⟨p,hp⟩:∃ p,L[i]=p:=⟨_,rfl⟩
   rw [hp] at c d hr1 hr2 hmem
   obtain ⟨g2,u,l,tx⟩:=p
   dsimp only at c d hr1 hr2 hmem
   obtain ⟨m,hm⟩:∃ m,l.length=m:=⟨_,rfl⟩
   rw [hm] at c d
   have HMM:Hid (m≤1048576):=by show _≤_;rw [← hm];exact hmem.1
   have HLM:=hid hm
   have HR1:=hid hr1
   have HR2:=hid hr2
   clear hp hm hmem hr1 hr2
   have hI:(0:Int)≤(i:Int)∧(i:Int)<(mn:Int):=by omega
   have HSS:Hid (∀ W,Below wr.heap.size wr W→((W.cell? ⟨w.heap.size,5,none⟩=some (.slice (some ⟨k,o,none⟩) mn mc)∧W.cell? ⟨w.heap.size+1,5,none⟩=some (.slice (some ⟨k',o',none⟩) mn mc'))∧W.cell? ⟨k,o+i*4,none⟩=some (.int .i64 g2)∧W.cell? ⟨k,o+i*4+1,none⟩=some (.int .i64 u)∧W.cell? ⟨k,o+i*4+2,none⟩=some (.slice fa m fc)∧W.cell? ⟨k,o+i*4+3,none⟩=some (.string tx))∧(W.cell? ⟨k',o'+i*4,none⟩=some (.int .i64 g2)∧W.cell? ⟨k',o'+i*4+1,none⟩=some (.int .i64 u)∧W.cell? ⟨k',o'+i*4+2,none⟩=some (.slice fa' m fc')∧W.cell? ⟨k',o'+i*4+3,none⟩=some (.string tx))) :=
    fun W h=>⟨⟨⟨(A0.out.later h).cells.2.2.2.2.2.1,(A1.out.later h).cells.2.2.2.2.2.1⟩,C4.later c hk h⟩,C4.later d hk' h⟩
   clear c d
   go_wp2_with fail
   go_region_held3 (fun W=>((W.cell? ⟨w.heap.size,5,none⟩=some (.slice (some ⟨k,o,none⟩) mn mc)∧W.cell? ⟨w.heap.size+1,5,none⟩=some (.slice (some ⟨k',o',none⟩) mn mc'))∧W.cell? ⟨k,o+i*4,none⟩=some (.int .i64 g2)∧W.cell? ⟨k,o+i*4+1,none⟩=some (.int .i64 u)∧W.cell? ⟨k,o+i*4+2,none⟩=some (.slice fa m fc)∧W.cell? ⟨k,o+i*4+3,none⟩=some (.string tx))∧(W.cell? ⟨k',o'+i*4,none⟩=some (.int .i64 g2)∧W.cell? ⟨k',o'+i*4+1,none⟩=some (.int .i64 u)∧W.cell? ⟨k',o'+i*4+2,none⟩=some (.slice fa' m fc')∧W.cell? ⟨k',o'+i*4+3,none⟩=some (.string tx)))
    ((refine HSS.out _ ?_;repeat (first | exact bdr (bre _) | refine btr ?_ (by assumption))))
    ((go_at_call 60;refine (specSame_any g2 u fa m fc l tx g2 u fa' m fc' l tx _ HLM.out HLM.out HMM.out (HR1.out.later (by repeat (first | exact bdr (bre _) | exact bre _ | refine btr ?_ (by assumption)))) (HR2.out.later (by repeat (first | exact bdr (bre _) | exact bre _ | refine btr ?_ (by assumption))))).mono ?_;rintro e w1 ⟨rfl,hb1⟩;rw [smail_self]))
   have HB1:Hid (Below wr.heap.size wr w1):=by show Below _ _ _;repeat (first | exact bdr (bre _) | refine btr ?_ (by assumption))
   clear c0
   go_wp2
   go_roundw
   case rel=>exact ⟨i+1,by omega,by go_num,A0.out.later HB1.out,A1.out.later HB1.out,btr HBE.out HB1.out⟩
   case measure=>simp [intOf];omega
  ·go_wp2
   clear c0
   go_loopw [6] (fun iv wr=>∃ i:Nat,i≤gn∧iv=.int .i64 (i:Int)∧Bx wr w.heap.size 37 g nm t b nx (.slice ma mn mc) (.slice ga gn gc)∧Bx wr (w.heap.size+1) 37 g nm t b nx (.slice ma' mn mc') (.slice ga' gn gc')∧Below w.heap.size w wr) (fun iv _=>gn - (intOf iv).toNat)
   case atStart=>exact ⟨0,Nat.zero_le _,rfl,A0.out,A1.out,HBE.out⟩
   case round =>
    obtain ⟨j,hj,rfl,hk0,hk1,hb⟩:=hrel
    have A0:=hid hk0
    have A1:=hid hk1
    have HBE:=hid hb
    have c0:=hk0.cells
    have c1:=hk1.cells
    clear hk0 hk1 hb
    by_cases hlt2:j<gn
    ·have hjl:j<G.length:=by rw [hgl];exact hlt2
     obtain ⟨k,o,rfl,hk,c⟩:=(HS.out.later HBE.out).at hjl
     obtain ⟨k',o',rfl,hk',d⟩:=(HS'.out.later HBE.out).at hjl
     obtain ⟨x,hx⟩:∃ x,G[j]=x:=⟨_,rfl⟩
     rw [hx] at c d
     clear hx
     have hI:(0:Int)≤(j:Int)∧(j:Int)<(gn:Int):=by omega
     have hxx:(x != x)=false:=by simp
     go_wp2_with fail
     go_quiet (fail)
     clear c0 c1
     go_wp2
     go_roundw
     case rel=>exact ⟨j+1,by omega,by go_num,A0.out.later (bdn (bre _) _),A1.out.later (bdn (bre _) _),bdn HBE.out _⟩
     case measure=>simp [intOf];omega
    ·go_wp2
     go_ret
     exact ⟨rfl,HBE.out⟩
theorem two_stz (w:World) (y tm:Int) (bv gv bv' gv':Value) (W0:World) (h:(w.alloc (.cells #[.int .i64 y,.int .i64 tm,bv,gv] 27)).alloc (.cells #[.int .i64 y,.int .i64 tm,bv',gv'] 27)=W0):Sx W0 w.heap.size 27 y tm bv gv∧Sx W0 (w.heap.size+1) 27 y tm bv' gv'∧Below w.heap.size w W0:=by
 subst h
 refine ⟨(Sx.new w 27 y tm bv gv).later (bpush (bre _) _),?_,bpush (bpush (bre _) _) _⟩
 have h:=Sx.new (w.alloc (.cells #[.int .i64 y,.int .i64 tm,bv,gv] 27)) 27 y tm bv' gv'
 simpa using h
set_option maxHeartbeats 3200000 in
set_option maxRecDepth 100000 in
theorem alike_any (l1 h1 l2 h2:Nat) (y tm:Int) (ba:Option Addr) (bn bc:Nat) (ga:Option Addr) (gn gc:Nat) (ba':Option Addr) (bc':Nat) (ga':Option Addr) (gc':Nat) (S:List X7) (G:List Int) (w:World) (h1t:Tg w l1 h1 ba bn bc ga gn gc S G) (h2t:Tg w l2 h2 ba' bn bc' ga' gn gc' S G) :
  Calls Tryz.prog 87 #[.agg #[.int .i64 y,.int .i64 tm,.slice ba bn bc,.slice ga gn gc],.agg #[.int .i64 y,.int .i64 tm,.slice ba' bn bc',.slice ga' gn gc']] w fun e w'=>e=.returned (.bool true)∧Below w.heap.size w w':=by
 obtain ⟨W0,hW0⟩:∃ W0,((w.alloc (.cells #[.int .i64 y,.int .i64 tm,.slice ba bn bc,.slice ga gn gc] 27)).alloc (.cells #[.int .i64 y,.int .i64 tm,.slice ba' bn bc',.slice ga' gn gc'] 27))=W0:=⟨_,rfl⟩
 obtain ⟨a0,a1,b0⟩:=two_stz w _ _ _ _ _ _ W0 hW0
 have A0:=hid a0
 have A1:=hid a1
 have B0:=hid b0
 have c0:=a0.cells
 have c1:=a1.cells
 have H1:=hid h1t
 have H2:=hid h2t
 have hbm:=h1t.most
 have hgm:=h1t.gmost
 have e1:((bn:Int) != (bn:Int))=false:=by simp
 have e2:((gn:Int) != (gn:Int))=false:=by simp
 clear a0 a1 b0 h1t h2t
 go_enter Tryz.func87,Tryz.ntmps87
 go_wp2
 clear c0 c1 e1 e2
 try rw [hW0]
 clear hW0
 go_loopw [5] (fun iv wr=>∃ i:Nat,i≤bn∧iv=.int .i64 (i:Int)∧Sx wr w.heap.size 27 y tm (.slice ba bn bc) (.slice ga gn gc)∧Sx wr (w.heap.size+1) 27 y tm (.slice ba' bn bc') (.slice ga' gn gc')∧Below w.heap.size w wr) (fun iv _=>bn - (intOf iv).toNat)
 case atStart=>exact ⟨0,Nat.zero_le _,rfl,A0.out,A1.out,B0.out⟩
 case round =>
  obtain ⟨i,hi,rfl,hk0,hk1,hb⟩:=hrel
  have A0:=hid hk0
  have A1:=hid hk1
  have HBE:=hid hb
  have c0:=hk0.cells
  clear hk0 hk1 hb B0
  by_cases hlt:i<bn
  ·have hil:i<S.length:=by rw [H1.out.len];exact hlt
   obtain ⟨k,o,ma,mc,ha,hc,rfl,hk,c,m1,g1,_⟩:=(H1.out.later HBE.out).boxes.at hil
   obtain ⟨k',o',ma',mc',ha',hc',rfl,hk',d,m2,g2,_⟩:=(H2.out.later HBE.out).boxes.at hil
   have hs:=H1.out.sb _ (List.getElem_mem hil)
   obtain ⟨p,hp⟩:∃ p,S[i]=p:=⟨_,rfl⟩
   rw [hp] at c d m1 m2 g1 g2 hs
   obtain ⟨g,nm,t,b,nx,L,H⟩:=p
   dsimp only at c d m1 m2 g1 g2 hs
   obtain ⟨mn,hmn⟩:∃ m,L.length=m:=⟨_,rfl⟩
   obtain ⟨hn9,hhn⟩:∃ m,H.length=m:=⟨_,rfl⟩
   rw [hmn,hhn] at c d hs
   have HL:=hid hmn
   have HH:=hid hhn
   have HSB:=hid hs
   have M1:=hid m1
   have M2:=hid m2
   have G1:=hid g1
   have G2:=hid g2
   clear hp hmn hhn hs m1 m2 g1 g2
   have hI:(0:Int)≤(i:Int)∧(i:Int)<(bn:Int):=by omega
   have HSS:Hid (∀ W,Below wr.heap.size wr W→((W.cell? ⟨w.heap.size,2,none⟩=some (.slice (some ⟨k,o,none⟩) bn bc)∧W.cell? ⟨w.heap.size+1,2,none⟩=some (.slice (some ⟨k',o',none⟩) bn bc'))∧(W.cell? ⟨k,o+i*7,none⟩=some (.int .i64 g)∧W.cell? ⟨k,o+i*7+1,none⟩=some (.string nm)∧W.cell? ⟨k,o+i*7+2,none⟩=some (.int .i64 t)∧W.cell? ⟨k,o+i*7+3,none⟩=some (.int .i64 b)∧W.cell? ⟨k,o+i*7+4,none⟩=some (.int .i64 nx)∧W.cell? ⟨k,o+i*7+5,none⟩=some (.slice ma mn mc)∧W.cell? ⟨k,o+i*7+6,none⟩=some (.slice ha hn9 hc)))∧(W.cell? ⟨k',o'+i*7,none⟩=some (.int .i64 g)∧W.cell? ⟨k',o'+i*7+1,none⟩=some (.string nm)∧W.cell? ⟨k',o'+i*7+2,none⟩=some (.int .i64 t)∧W.cell? ⟨k',o'+i*7+3,none⟩=some (.int .i64 b)∧W.cell? ⟨k',o'+i*7+4,none⟩=some (.int .i64 nx)∧W.cell? ⟨k',o'+i*7+5,none⟩=some (.slice ma' mn mc')∧W.cell? ⟨k',o'+i*7+6,none⟩=some (.slice ha' hn9 hc'))) :=
    fun W h=>⟨⟨⟨(A0.out.later h).cells.2.2.1,(A1.out.later h).cells.2.2.1⟩,C7.later c hk h⟩,C7.later d hk' h⟩
   clear c d
   go_wp2_with fail
   go_region_held3 (fun W=>((W.cell? ⟨w.heap.size,2,none⟩=some (.slice (some ⟨k,o,none⟩) bn bc)∧W.cell? ⟨w.heap.size+1,2,none⟩=some (.slice (some ⟨k',o',none⟩) bn bc'))∧(W.cell? ⟨k,o+i*7,none⟩=some (.int .i64 g)∧W.cell? ⟨k,o+i*7+1,none⟩=some (.string nm)∧W.cell? ⟨k,o+i*7+2,none⟩=some (.int .i64 t)∧W.cell? ⟨k,o+i*7+3,none⟩=some (.int .i64 b)∧W.cell? ⟨k,o+i*7+4,none⟩=some (.int .i64 nx)∧W.cell? ⟨k,o+i*7+5,none⟩=some (.slice ma mn mc)∧W.cell? ⟨k,o+i*7+6,none⟩=some (.slice ha hn9 hc)))∧(W.cell? ⟨k',o'+i*7,none⟩=some (.int .i64 g)∧W.cell? ⟨k',o'+i*7+1,none⟩=some (.string nm)∧W.cell? ⟨k',o'+i*7+2,none⟩=some (.int .i64 t)∧W.cell? ⟨k',o'+i*7+3,none⟩=some (.int .i64 b)∧W.cell? ⟨k',o'+i*7+4,none⟩=some (.int .i64 nx)∧W.cell? ⟨k',o'+i*7+5,none⟩=some (.slice ma' mn mc')∧W.cell? ⟨k',o'+i*7+6,none⟩=some (.slice ha' hn9 hc')))
    ((refine HSS.out _ ?_;repeat (first | exact bdr (bre _) | refine btr ?_ (by assumption))))
    ((go_at_call 126;refine (l09Box_any _ _ _ _ _ _ _ _ g nm t b nx ma mn mc ha hn9 hc ma' mc' ha' hc' L H _ HL.out HSB.out.2.1 HSB.out.2.2.1 (M1.out.later (by repeat (first | exact bdr (bre _) | exact bre _ | refine btr ?_ (by assumption)))) (M2.out.later (by repeat (first | exact bdr (bre _) | exact bre _ | refine btr ?_ (by assumption)))) HH.out HSB.out.2.2.2 (G1.out.later (by repeat (first | exact bdr (bre _) | exact bre _ | refine btr ?_ (by assumption)))) (G2.out.later (by repeat (first | exact bdr (bre _) | exact bre _ | refine btr ?_ (by assumption))))).mono ?_;rintro e w1 ⟨rfl,hb1⟩))
   have HB1:Hid (Below wr.heap.size wr w1):=by show Below _ _ _;repeat (first | exact bdr (bre _) | refine btr ?_ (by assumption))
   clear c0
   go_wp2
   go_roundw
   case rel=>exact ⟨i+1,by omega,by go_num,A0.out.later HB1.out,A1.out.later HB1.out,btr HBE.out HB1.out⟩
   case measure=>simp [intOf];omega
  ·go_wp2
   clear c0
   go_loopw [6] (fun iv wr=>∃ i:Nat,i≤gn∧iv=.int .i64 (i:Int)∧Sx wr w.heap.size 27 y tm (.slice ba bn bc) (.slice ga gn gc)∧Sx wr (w.heap.size+1) 27 y tm (.slice ba' bn bc') (.slice ga' gn gc')∧Below w.heap.size w wr) (fun iv _=>gn - (intOf iv).toNat)
   case atStart=>exact ⟨0,Nat.zero_le _,rfl,A0.out,A1.out,HBE.out⟩
   case round =>
    obtain ⟨j,hj,rfl,hk0,hk1,hb⟩:=hrel
    have A0:=hid hk0
    have A1:=hid hk1
    have HBE:=hid hb
    have c0:=hk0.cells
    have c1:=hk1.cells
    clear hk0 hk1 hb
    by_cases hlt2:j<gn
    ·have hjl:j<G.length:=by rw [H1.out.glen];exact hlt2
     obtain ⟨k,o,rfl,hk,c⟩:=(H1.out.later HBE.out).gone.at hjl
     obtain ⟨k',o',rfl,hk',d⟩:=(H2.out.later HBE.out).gone.at hjl
     obtain ⟨x,hx⟩:∃ x,G[j]=x:=⟨_,rfl⟩
     rw [hx] at c d
     clear hx
     have hI:(0:Int)≤(j:Int)∧(j:Int)<(gn:Int):=by omega
     have hxx:(x != x)=false:=by simp
     go_wp2_with fail
     go_quiet (fail)
     clear c0 c1
     go_wp2
     go_roundw
     case rel=>exact ⟨j+1,by omega,by go_num,A0.out.later (bdn (bre _) _),A1.out.later (bdn (bre _) _),bdn HBE.out _⟩
     case measure=>simp [intOf];omega
    ·go_wp2
     go_ret
     exact ⟨rfl,HBE.out⟩
set_option maxHeartbeats 1600000 in
set_option maxRecDepth 100000 in
theorem sameAll_any (y tm:Int) (ba:Option Addr) (bn bc:Nat) (ga:Option Addr) (gn gc:Nat) (ba':Option Addr) (bc':Nat) (ga':Option Addr) (gc':Nat) (S:List X7) (G:List Int) (w:World) (h1t:Tz w ba bn bc ga gn gc S G) (h2t:Tz w ba' bn bc' ga' gn gc' S G) :
  Calls Tryz.prog 32 #[.agg #[.int .i64 y,.int .i64 tm,.slice ba bn bc,.slice ga gn gc],.agg #[.int .i64 y,.int .i64 tm,.slice ba' bn bc',.slice ga' gn gc']] w fun e w'=>e=.returned (.bool true)∧Below w.heap.size w w':=by
 obtain ⟨W0,hW0⟩:∃ W0,((w.alloc (.cells #[.int .i64 y,.int .i64 tm,.slice ba bn bc,.slice ga gn gc] 27)).alloc (.cells #[.int .i64 y,.int .i64 tm,.slice ba' bn bc',.slice ga' gn gc'] 27))=W0:=⟨_,rfl⟩
 obtain ⟨a0,a1,b0⟩:=two_stz w _ _ _ _ _ _ W0 hW0
 have B0:=hid b0
 have c0:=a0.cells
 have c1:=a1.cells
 have H1:=hid h1t
 have H2:=hid h2t
 clear a0 a1 b0 h1t h2t
 go_enter Tryz.func32,Tryz.ntmps32
 go_wp2_with fail
 try rw [hW0]
 clear hW0
 obtain ⟨l1,h1,t1⟩:=H1.out.later B0.out
 obtain ⟨l2,h2,t2⟩:=H2.out.later B0.out
 refine (alike_any l1 h1 l2 h2 y tm ba bn bc ga gn gc ba' bc' ga' gc' S G _ t1 t2).mono ?_;rintro e w1 ⟨rfl,hb1⟩
 have B1:=hid (btr B0.out hb1)
 clear hb1 t1 t2 c0 c1
 go_wp2
 go_ret
 exact ⟨rfl,B1.out⟩
end Go.Proofs.YtkbecgcbheopnaaGreat
