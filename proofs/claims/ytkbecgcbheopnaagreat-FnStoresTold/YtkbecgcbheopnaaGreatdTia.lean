/- Tia. -/

import Derived.Test.YtkbecgcbheopnaaGreatdTky
namespace Go.Proofs.YtkbecgcbheopnaaGreat
open Go.RowKit Go.ChangeMaps
theorem atGid_any (x:X7) (mv gv:Value) (z:Int) (kb:Nat) (w:World) (hkb:kb<w.heap.size) (hc:w.cell? ⟨kb,0,none⟩=some (.int .i64 z)) :
  Calls Tryz.prog 58 #[.agg #[.int .i64 x.1,.string x.2.1,.int .i64 x.2.2.1,.int .i64 x.2.2.2.1,.int .i64 x.2.2.2.2.1,mv,gv],.pointer (some ⟨kb,0,none⟩)] w fun e w'=>e=.returned (.bool (isG z x))∧Below w.heap.size w w':=by
 obtain ⟨g,nm,t,b,nx,L,G⟩:=x
 dsimp only
 have A0:=(Bx.new w 37 g nm t b nx mv gv).cells
 have c1:=((bpush (bre w) (.cells #[.int .i64 g,.string nm,.int .i64 t,.int .i64 b,.int .i64 nx,mv,gv] 37)).cell (p:=⟨kb,0,none⟩) hkb).trans hc
 clear hc
 go_enter Tryz.func58,Tryz.ntmps58
 go_wp2
 go_ret
 exact ⟨by simp [isG,BEq.beq],bpush (bre _) _⟩
theorem atName_any (x:X7) (mv gv:Value) (z:ByteArray) (kb:Nat) (w:World) (hkb:kb<w.heap.size) (hc:w.cell? ⟨kb,0,none⟩=some (.string z)) :
  Calls Tryz.prog 61 #[.agg #[.int .i64 x.1,.string x.2.1,.int .i64 x.2.2.1,.int .i64 x.2.2.2.1,.int .i64 x.2.2.2.2.1,mv,gv],.pointer (some ⟨kb,0,none⟩)] w fun e w'=>e=.returned (.bool (isN z x))∧Below w.heap.size w w':=by
 obtain ⟨g,nm,t,b,nx,L,G⟩:=x
 dsimp only
 have A0:=(Bx.new w 37 g nm t b nx mv gv).cells
 have c1:=((bpush (bre w) (.cells #[.int .i64 g,.string nm,.int .i64 t,.int .i64 b,.int .i64 nx,mv,gv] 37)).cell (p:=⟨kb,0,none⟩) hkb).trans hc
 have HE:Hid (isN z (g,nm,t,b,nx,L,G)=(nm.toList == z.toList)):=by
  show _=_
  by_cases h:nm=z
  ·subst h;simp [isN]
  ·rw [bytes_ne h];simp [isN,h]
 clear hc
 go_enter Tryz.func61,Tryz.ntmps61
 go_wp2
 go_ret
 exact ⟨by rw [HE.out];rfl,bpush (bre _) _⟩
set_option maxHeartbeats 800000 in
set_option maxRecDepth 100000 in
theorem idxFunc_any (F:Nat) (p:X7→Bool) (lo hi:Nat) (ba:Option Addr) (bn bc:Nat) (S:List X7) (kb:Nat) (w:World) (hl:S.length=bn) (hn:bn≤1048576) (hm:Bs lo hi w ba S) (hE:∀ args W,(callFunc F args).run Tryz.prog W=.ok (.enter F args) W)
  (hF:∀ (x:X7) (mv gv:Value) (W:World),Below w.heap.size w W→Calls Tryz.prog F #[.agg #[.int .i64 x.1,.string x.2.1,.int .i64 x.2.2.1,.int .i64 x.2.2.2.1,.int .i64 x.2.2.2.2.1,mv,gv],.pointer (some ⟨kb,0,none⟩)] W fun e W'=>e=.returned (.bool (p x))∧Below W.heap.size W W') :
  Calls Tryz.prog 57 #[.slice ba bn bc,.func (.func F) #[] #[.pointer (some ⟨kb,0,none⟩)]] w fun e w'=>e=.returned (.int .i64 (fidx p S 0))∧Below w.heap.size w w':=by
 have HR:=hid hm
 have HL:=hid hl
 have HF:=hid hF
 clear hm hl hF
 go_enter Tryz.func57,Tryz.ntmps57
 go_wp2
 go_loopw [8] (fun iv wr=>∃ (i:Nat),i≤bn∧iv=.int .i64 (i:Int)∧Hid (fidx p S 0=fidx p (S.drop i) i)∧Below w.heap.size w wr) (fun iv _=>bn - (intOf iv).toNat)
 case atStart=>exact ⟨0,Nat.zero_le _,rfl,rfl,bre _⟩
 case round =>
  obtain ⟨i,hi,rfl,HQ,hb⟩:=hrel
  by_cases hlt:i<bn
  ·have hil:i<S.length:=by rw [HL.out];exact hlt
   obtain ⟨k,o,ma,mc,ga,gc,rfl,hk,d,_⟩:=(HR.out.later hb).at hil
   obtain ⟨q,hq⟩:∃ q,S[i]=q:=⟨_,rfl⟩
   rw [hq] at d
   have HP:=hid hq
   have HB:=hid hb
   have HC:=hid (HF.out q)
   obtain ⟨r,hr⟩:∃ r,p q=r:=⟨_,rfl⟩
   rw [hr] at HC
   have HRR:=hid hr
   obtain ⟨g1,nm1,t1,b1,nx1,L1,G1⟩:=q
   dsimp only at d HC
   obtain ⟨m1,hm1⟩:∃ m1,L1.length=m1:=⟨_,rfl⟩
   obtain ⟨n1,hn1⟩:∃ n1,G1.length=n1:=⟨_,rfl⟩
   rw [hm1,hn1] at d
   unfold C7 at d
   have hI:(0:Int)≤(i:Int)∧(i:Int)<(bn:Int):=by omega
   clear hq hb hr hm1 hn1
   go_wp2_with fail
   refine (HC.out _ _ _ HB.out).mono ?_;rintro e w1 ⟨rfl,hb1⟩
   have HB1:=hid (btr HB.out hb1)
   clear hb1 d
   cases r
   ·have HE:Hid (fidx p S 0=fidx p (S.drop (i+1)) (i+1)):=by show _=_;rw [HQ.out,fidx_on hil (by rw [HP.out];exact HRR.out)]
    go_wp2
    go_roundw
    case rel=>exact ⟨i+1,by omega,by go_num,HE,HB1.out⟩
    case measure=>simp [intOf];omega
   ·have HE:Hid (fidx p S 0=i):=by show _=_;rw [HQ.out,fidx_here hil (by rw [HP.out];exact HRR.out)]
    go_wp2
    go_ret
    exact ⟨by rw [HE.out];rfl,HB1.out⟩
  ·have HE:Hid (fidx p S 0=-1):=by show _=_;rw [HQ.out,List.drop_of_length_le (by rw [HL.out];omega)];rfl
   go_wp2
   go_ret
   exact ⟨by rw [HE.out];rfl,hb⟩
theorem store_cell (w:World) (ta tc:Nat) (y tm:Int) (bv gv v:Value) (W0:World) (h:(w.alloc (.cells #[.int .i64 y,.int .i64 tm,bv,gv] ta)).alloc (.cells #[v] tc)=W0) :
  Sx W0 w.heap.size ta y tm bv gv∧W0.cell? ⟨w.heap.size+1,0,none⟩=some v∧Below w.heap.size w W0∧W0.heap.size=w.heap.size+1+1:=by
 subst h
 refine ⟨(Sx.new w _ y tm _ _).later (bpush (bre _) _),?_,bpush (bpush (bre _) _) _,by simp⟩
 have h:=heap_alloc_new (w.alloc (.cells #[.int .i64 y,.int .i64 tm,bv,gv] ta)) (.cells #[v] tc)
 rw [show (w.alloc (.cells #[.int .i64 y,.int .i64 tm,bv,gv] ta)).heap.size=w.heap.size+1 by simp] at h
 exact cell_of_row _ _ 0 _ _ _ h
set_option maxRecDepth 100000 in
theorem implBoxAt_any (lo hi:Nat) (y tm:Int) (ba:Option Addr) (bn bc:Nat) (gv:Value) (S:List X7) (x:Int) (w:World) (hl:S.length=bn) (hn:bn≤1048576) (hm:Bs lo hi w ba S) :
  Calls Tryz.prog 13 #[.agg #[.int .i64 y,.int .i64 tm,.slice ba bn bc,gv],.int .i64 x] w fun e w'=>e=.returned (.int .i64 (fidx (isG x) S 0))∧Below w.heap.size w w':=by
 obtain ⟨W0,hW0⟩:∃ W0,(w.alloc (.cells #[.int .i64 y,.int .i64 tm,.slice ba bn bc,gv] 27)).alloc (.cells #[.int .i64 x] 3)=W0:=⟨_,rfl⟩
 obtain ⟨a0,hx,b0,hs⟩:=store_cell w _ _ _ _ _ _ _ W0 hW0
 have c0:=a0.cells
 have HR:=hid (hm.later b0)
 have B0:=hid b0
 have HX:=hid hx
 have HS:=hid hs
 clear a0 b0 hm hx hs
 go_enter Tryz.func13,Tryz.ntmps13
 go_wp2_with fail
 clear hW0 c0
 have hlt:w.heap.size+1<W0.heap.size:=by have:=HS.out;omega
 refine (idxFunc_any 58 (isG x) lo hi ba bn bc S (w.heap.size+1) _ hl hn HR.out (Go.Proofs.enters_of Tryz.func58 (by kernel_rfl) rfl) (fun q mv gv W hW=>atGid_any q mv gv x (w.heap.size+1) W (Nat.lt_of_lt_of_le hlt hW.size) ((hW.cell (p:=⟨w.heap.size+1,0,none⟩) hlt).trans HX.out))).mono ?_;rintro e w1 ⟨rfl,hb1⟩
 have B1:=hid (btr B0.out hb1)
 clear hb1
 obtain ⟨q,hq⟩:∃ q,fidx (isG x) S 0=q:=⟨_,rfl⟩
 rw [hq]
 have HQ:=hid hq
 clear hq
 go_wp2
 go_ret
 exact ⟨by rw [HQ.out];rfl,B1.out⟩
set_option maxRecDepth 100000 in
theorem implBoxNamed_any (lo hi:Nat) (y tm:Int) (ba:Option Addr) (bn bc:Nat) (gv:Value) (S:List X7) (x:ByteArray) (w:World) (hl:S.length=bn) (hn:bn≤1048576) (hm:Bs lo hi w ba S) :
  Calls Tryz.prog 15 #[.agg #[.int .i64 y,.int .i64 tm,.slice ba bn bc,gv],.string x] w fun e w'=>e=.returned (.int .i64 (fidx (isN x) S 0))∧Below w.heap.size w w':=by
 obtain ⟨W0,hW0⟩:∃ W0,(w.alloc (.cells #[.int .i64 y,.int .i64 tm,.slice ba bn bc,gv] 27)).alloc (.cells #[.string x] 9)=W0:=⟨_,rfl⟩
 obtain ⟨a0,hx,b0,hs⟩:=store_cell w _ _ _ _ _ _ _ W0 hW0
 have c0:=a0.cells
 have HR:=hid (hm.later b0)
 have B0:=hid b0
 have HX:=hid hx
 have HS:=hid hs
 clear a0 b0 hm hx hs
 go_enter Tryz.func15,Tryz.ntmps15
 go_wp2_with fail
 clear hW0 c0
 have hlt:w.heap.size+1<W0.heap.size:=by have:=HS.out;omega
 refine (idxFunc_any 61 (isN x) lo hi ba bn bc S (w.heap.size+1) _ hl hn HR.out (Go.Proofs.enters_of Tryz.func61 (by kernel_rfl) rfl) (fun q mv gv W hW=>atName_any q mv gv x (w.heap.size+1) W (Nat.lt_of_lt_of_le hlt hW.size) ((hW.cell (p:=⟨w.heap.size+1,0,none⟩) hlt).trans HX.out))).mono ?_;rintro e w1 ⟨rfl,hb1⟩
 have B1:=hid (btr B0.out hb1)
 clear hb1
 obtain ⟨q,hq⟩:∃ q,fidx (isN x) S 0=q:=⟨_,rfl⟩
 rw [hq]
 have HQ:=hid hq
 clear hq
 go_wp2
 go_ret
 exact ⟨by rw [HQ.out];rfl,B1.out⟩
theorem implNextStamp_any (y tm:Int) (bv gv:Value) (w:World) (ht:-9223372036854775808≤tm∧tm≤9223372036854775806) :
  Calls Tryz.prog 34 #[.agg #[.int .i64 y,.int .i64 tm,bv,gv]] w fun e w'=>e=.returned (.agg #[.int .i64 (tm+1),.int .i64 y])∧Below w.heap.size w w':=by
 obtain ⟨W0,hW0⟩:∃ W0,(w.alloc (.cells #[.int .i64 y,.int .i64 tm,bv,gv] 27)).alloc (.cells #[.int .i64 0,.int .i64 0] 34)=W0:=⟨_,rfl⟩
 have a0:Sx W0 w.heap.size 27 y tm bv gv:=by subst hW0;exact (Sx.new w _ y tm _ _).later (bpush (bre _) _)
 have a1:Sg W0 (w.heap.size+1) 34 0 0:=by
  have h:=Sg.new (w.alloc (.cells #[.int .i64 y,.int .i64 tm,bv,gv] 27)) 34 0 0
  have e:(w.alloc (.cells #[.int .i64 y,.int .i64 tm,bv,gv] 27)).heap.size=w.heap.size+1:=by simp
  rw [e,hW0] at h
  exact h
 have b0:Below w.heap.size w W0:=by subst hW0;exact bpush (bpush (bre _) _) _
 have c0:=a0.cells
 have c1:=a1.cells
 have f1:=a1.loose
 have A1:=hid a1
 have B0:=hid b0
 clear a0 a1 b0
 go_enter Tryz.func34,Tryz.ntmps34
 go_wp2
 have c3:=(A1.out.set' (t':=tm+1) (b':=y)).cells
 exact bodyPost_ret (v:=stv (tm+1) y) (by simp [results,Tryz.results34,go_sem,c3]) rfl ⟨rfl,B0.out.trans (((Below.refl _ _).setCell (p:=⟨w.heap.size+1,0,none⟩) (by show w.heap.size≤w.heap.size+1;omega) _).setCell (p:=⟨w.heap.size+1,1,none⟩) (by show w.heap.size≤w.heap.size+1;omega) _)⟩
theorem implStoreNew_any (y:Int) (w:World) :
  Calls Tryz.prog 35 #[.int .i64 y] w fun e w'=>e=.returned (.agg #[.int .i64 y,.int .i64 0,.slice none 0 0,.slice none 0 0])∧Below w.heap.size w w':=by
 have a0:=Sx.new w 27 0 0 (.slice none 0 0) (.slice none 0 0)
 have A0:=hid a0
 have c0:=a0.cells
 have f0:=a0.loose
 have hb:Below w.heap.size w (w.alloc (.cells #[.int .i64 0,.int .i64 0,.slice none 0 0,.slice none 0 0] 27)):=bpush (bre _) _
 have B0:=hid hb
 clear a0 hb
 go_enter Tryz.func35,Tryz.ntmps35
 go_wp2
 have d1:=(Sx.new w 27 y 0 (.slice none 0 0) (.slice none 0 0)).cells
 exact bodyPost_ret (v:=.agg #[.int .i64 y,.int .i64 0,.slice none 0 0,.slice none 0 0]) (by simp [results,Tryz.results35,go_sem,d1]) rfl ⟨rfl,bpush (bre _) _⟩
end Go.Proofs.YtkbecgcbheopnaaGreat
