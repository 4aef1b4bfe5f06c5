/- Wb, Wc, Wk, Wx. -/
import Derived.Test.YtdkedgedkgabnaaGreatDoorX34
namespace Go.Proofs.YtdkedgedkgabnaaGreatDoor
open Go.RowKit Go.ChangeMaps
set_option maxHeartbeats 16000000
set_option maxRecDepth 100000
def Lin1 (w:World) (k:Nat) (s:ByteArray) (b:Int) (e:Ending) (w':World):Prop :=
 (∃ G v c,iis s b=some (G,c)∧e=.returned v∧Dg w' k s c∧OwI w' w.heap.size v G∧w.grownBy w' (some k))∨(iis s b=none∧e=.panicked notHere∧w.grownBy w' (some k))
def Lml1 (w:World) (k:Nat) (s:ByteArray) (b:Int) (e:Ending) (w':World):Prop :=
 (∃ L Z v c,ims s b=some (L,c)∧Z.map md=L∧e=.returned v∧Dg w' k s c∧OwZ w' w.heap.size v Z∧w.grownBy w' (some k))∨(ims s b=none∧e=.panicked notHere∧w.grownBy w' (some k))
theorem iis_no {s:ByteArray} {b:Int} (h:rd s b=none):iis s b=none:=by unfold iis;rw [h];rfl
theorem ims_no {s:ByteArray} {b:Int} (h:rd s b=none):ims s b=none:=by unfold ims;rw [h];rfl
theorem iis_is {s:ByteArray} {b n c:Int} (h:rd s b=some (n,c)):iis s b=rds s c n.toNat:=by unfold iis;rw [h];rfl
theorem ims_is {s:ByteArray} {b n c:Int} (h:rd s b=some (n,c)):ims s b=rms s c n.toNat:=by unfold ims;rw [h];rfl
theorem rds_step {s:ByteArray} {a:Int} {G:List Int} {b:Int} (h:rds s a G.length=some (G,b)) (hr:rd s b=none):rds s a (G.length+1)=none:=by
 rw [rds,h];simp only [Option.bind_some,hr,Option.map_none]
theorem ownI_nil (W:World) (B:Nat):OwI W B (.slice none 0 0) []:=⟨rfl,.inl ⟨rfl,rfl⟩⟩
theorem lints_any (k:Nat) (s:ByteArray) (b:Int) (w:World) (hs:s.size≤1048576) (hc:Dg w k s b) :
  Calls Tryz.prog 85 #[.pointer (some ⟨k,0,none⟩),.func (.func 83) #[] #[]] w fun e w'=>Lin1 w k s b e w':=by
 have HK:=hid hc.lt;have HC:=hid hc;have HSZ:=hid hs;clear hc hs
 go_enter Tryz.func85,Tryz.ntmps85
 go_wp2_with fail
 refine (numr_any k s b _ HSZ.out HC.out).mono ?_;rintro e w1 (⟨n,b1,hr,rfl,hd,hg⟩ | ⟨hr,rfl,hg⟩)
 case inr =>
  have H:=hid (iis_no hr);have G:=hid hg;clear hr hg
  go_wp2_with fail
  exact ⟨rfl,Or.inr ⟨H.out,rfl,G.out⟩⟩
 have HR:=hid hr;have HN:=hid (rd_lt hr);have C1:=hid hd;have G1:=hid hg;have hnn:0≤n∧n≤1000000000:=⟨HN.out.2.2.2.1,HN.out.2.2.2.2⟩;clear hr hd hg HC
 go_wp2
 obtain ⟨mx,hmx⟩:∃ m:Nat,(m:Int)=n:=⟨n.toNat,by omega⟩;have HMX:Hid (mx=n.toNat):=hid (by omega)
 go_loopw [5,8] (fun ov iv wr=>∃ (i:Nat) (G:List Int) (b2:Int),i≤mx∧iv=.int .i64 (i:Int)∧Hid (G.length=i)∧OwI wr w.heap.size ov G∧Dg wr k s b2∧Hid (rds s b1 G.length=some (G,b2))∧w.grownBy wr (some k)) (fun _ iv _=>mx - (intOf iv).toNat)
 case atStart=>exact ⟨0,[],b1,Nat.zero_le _,rfl,rfl,ownI_nil _ _,C1.out,rfl,G1.out⟩
 case round =>
  obtain ⟨i,G,b2,hi,rfl,HL,ho,hc,HQ,hg⟩:=hrel;have XO:=hid ho;have XC:=hid hc;have XG:=hid hg;clear ho hc hg C1 G1
  by_cases hlt:(i:Int)<n
  ·go_wp2_with fail
   refine (numr_any k s b2 _ HSZ.out XC.out).mono ?_;rintro e w3 (⟨x,b3,hr3,rfl,hd3,hg3⟩ | ⟨hr3,rfl,hg3⟩)
   case inr =>
    have H:Hid (iis s b=none):=hid (by
      rw [iis_is HR.out,← HMX.out]
      exact rds_cut (rds_step HQ.out hr3) (by rw [HL.out];omega))
    have G:=hid (wtr XG.out hg3);clear hr3 hg3
    go_wp2_with fail
    exact ⟨rfl,Or.inr ⟨H.out,rfl,G.out⟩⟩
   have H3:=hid hr3;have C3:=hid hd3;have G3:=hid (wtr XG.out hg3);have hk:=HK.out;have O3:=hid (ownI_far XO.out hg3 hk);have hs3:=G3.out.size;have HLE:Hid (G.length≤9000000):=hid (by have h1:=rds_lt HQ.out;have h2:=HSZ.out;have h3:=HN.out;have h4:=rd_lt hr3;omega);clear hr3 hd3 hg3 hk
   go_wp2_with (at_builtin;refine wpList_append_i10 w3 rfl (.tmp 10) (.tmp 14) rfl w.heap.size _ G (by rfl) O3.out x rfl HLE.out hs3 ?_;intro v4 w4 hown4 hb4;have HO4:=hid hown4;have HB4:=hid hb4;clear hown4 hb4)
   go_roundw
   case rel=>exact ⟨i+1,G++[x],b3,by omega,by go_num,hid (by show (G++[x]).length=i+1;rw [List.length_append,HL.out];rfl),HO4.out,(HB4.out.block k HK.out).trans C3.out,hid (rds_some HQ.out H3.out),grown_under G3.out HB4.out (Nat.le_refl _)⟩
   case measure=>simp [intOf];omega
  have HF:Hid (iis s b=some (G,b2)):=hid (by rw [iis_is HR.out,← HMX.out,show mx=G.length by rw [HL.out];omega];exact HQ.out)
  go_wp2
  go_ret
  exact Or.inl ⟨G,_,b2,HF.out,rfl,XC.out,XO.out,XG.out⟩
theorem lmails_any (k:Nat) (s:ByteArray) (b:Int) (w:World) (hs:s.size≤1048576) (hc:Dg w k s b) :
  Calls Tryz.prog 106 #[.pointer (some ⟨k,0,none⟩),.func (.func 107) #[] #[]] w fun e w'=>Lml1 w k s b e w':=by
 have HK:=hid hc.lt;have HC:=hid hc;have HSZ:=hid hs;clear hc hs
 go_enter Tryz.func106,Tryz.ntmps106
 go_wp2_with fail
 refine (numr_any k s b _ HSZ.out HC.out).mono ?_;rintro e w1 (⟨n,b1,hr,rfl,hd,hg⟩ | ⟨hr,rfl,hg⟩)
 case inr =>
  have H:=hid (ims_no hr);have G:=hid hg;clear hr hg
  go_wp2_with fail
  exact ⟨rfl,Or.inr ⟨H.out,rfl,G.out⟩⟩
 have HR:=hid hr;have HN:=hid (rd_lt hr);have C1:=hid hd;have G1:=hid hg;have hnn:0≤n∧n≤1000000000:=⟨HN.out.2.2.2.1,HN.out.2.2.2.2⟩;clear hr hd hg HC
 go_wp2
 obtain ⟨mx,hmx⟩:∃ m:Nat,(m:Int)=n:=⟨n.toNat,by omega⟩;have HMX:Hid (mx=n.toNat):=hid (by omega)
 go_loopw [5,8] (fun ov iv wr=>∃ (i:Nat) (Z:List Z5) (b2:Int),i≤mx∧iv=.int .i64 (i:Int)∧Hid (Z.length=i)∧OwZ wr w.heap.size ov Z∧Dg wr k s b2∧Hid (rms s b1 Z.length=some (Z.map md,b2))∧w.grownBy wr (some k)) (fun _ iv _=>mx - (intOf iv).toNat)
 case atStart=>exact ⟨0,[],b1,Nat.zero_le _,rfl,rfl,ownZ_nil _ _,C1.out,rfl,G1.out⟩
 case round =>
  obtain ⟨i,Z,b2,hi,rfl,HL,ho,hc,HQ,hg⟩:=hrel;have XO:=hid ho;have XC:=hid hc;have XG:=hid hg;clear ho hc hg C1 G1
  by_cases hlt:(i:Int)<n
  ·go_wp2_with fail
   refine (mail_any k s b2 _ HSZ.out XC.out).mono ?_;rintro e w3 (⟨mg,mu,ml,mt,b3,v,hr3,rfl,hd3,ho3,hg3⟩ | ⟨hr3,rfl,hg3⟩)
   case inr =>
    have H:Hid (ims s b=none):=hid (by
      rw [ims_is HR.out,← HMX.out]
      exact rms_cut (rms_stop HQ.out hr3) (by rw [HL.out];omega))
    have G:=hid (wtr XG.out hg3);clear hr3 hg3
    go_wp2_with fail
    exact ⟨rfl,Or.inr ⟨H.out,rfl,G.out⟩⟩
   have H3:=hid hr3;have C3:=hid hd3;have G3:=hid (wtr XG.out hg3);have hk:=HK.out;have hs0:=XG.out.size;have Z3:=hid (XO.out.grown hg3 hk);have HMV:Hid (∀ j,u5.ownBlock=some j→j<wr.heap.size):=hid (fun j hj=>(XO.out.row.lt j hj).2);have HEV:Hid (∀ y∈Z,∀ j,y.2.2.1.ownBlock=some j→j<wr.heap.size):=hid (fun y hy j hj=>(World.ownsRow.lt (XO.out.each y hy) j hj).2);have HFV:Hid (∀ j,v.ownBlock=some j→wr.heap.size≤j):=hid (fun j hj=>(World.ownsRow.lt ho3 j hj).1);have O3:Hid (Ow w3 w.heap.size v ml):=hid (own_base ho3 hs0);have hs3:=G3.out.size;have HLE:Hid (Z.length≤1048576):=hid (by have h1:=rms_end HQ.out;have h2:=HSZ.out;have h3:=HN.out;have h4:=rm6_end hr3;omega);obtain ⟨fa,fc,hv,_⟩:=Ow.shape ho3;subst hv;clear hr3 hd3 hg3 ho3 hk hs0
   go_wp2_with (at_builtin;refine wpList_append_ml rfl (.tmp 10) (.tmp 14) rfl w.heap.size _ Z (by rfl) (mg,mu,.slice fa ml.length fc,ml,mt) Z3.out O3.out (fun j h1 h2=>by have:=HMV.out j h1;have:=HFV.out j h2;omega) (fun y hy j h1 h2=>by have:=HEV.out y hy j h1;have:=HFV.out j h2;omega) (by rfl) HLE.out hs3 ?_;intro v4 w4 hown4 hb4 _ _;have HO4:=hid hown4;have HB4:=hid hb4;clear hown4 hb4)
   go_roundw
   case rel=>exact ⟨i+1,Z++[(mg,mu,.slice fa ml.length fc,ml,mt)],b3,by omega,by go_num,hid (by show (Z++[_]).length=i+1;rw [List.length_append,HL.out];rfl),HO4.out,(HB4.out.block k HK.out).trans C3.out,hid (by
     have h2:=rms_next HQ.out H3.out
     rw [List.length_append,List.map_append]
     exact h2),grown_under G3.out HB4.out (Nat.le_refl _)⟩
   case measure=>simp [intOf];omega
  have HF:Hid (ims s b=some (Z.map md,b2)):=hid (by rw [ims_is HR.out,← HMX.out,show mx=Z.length by rw [HL.out];omega];exact HQ.out)
  go_wp2
  go_ret
  exact Or.inl ⟨Z.map md,Z,_,b2,HF.out,rfl,rfl,XC.out,XO.out,XG.out⟩
theorem ibx_right {s:ByteArray} {a:Int} {g:Int} {nm:ByteArray} {t b nx:Int} {L:List M4} {G:List Int} {c:Int} (h:ibx s a=some ((g,nm,t,b,nx,L,G),c)):bxOk g nm t b nx L G=true:=by
 unfold ibx at h
 cases h1:rd s a with
 | none=>rw [h1] at h;cases h
 | some p1 =>
 rw [h1] at h;simp only [Option.bind_some] at h
 cases h2:rsh s p1.2 with
 | none=>rw [h2] at h;cases h
 | some p2 =>
 rw [h2] at h;simp only [Option.bind_some] at h
 cases h3:rg2 s p2.2 with
 | none=>rw [h3] at h;cases h
 | some p3 =>
 rw [h3] at h;simp only [Option.bind_some] at h
 cases h4:rd s p3.2 with
 | none=>rw [h4] at h;cases h
 | some p4 =>
 rw [h4] at h;simp only [Option.bind_some] at h
 cases h5:ims s p4.2 with
 | none=>rw [h5] at h;cases h
 | some p5 =>
 rw [h5] at h;simp only [Option.bind_some] at h
 cases h6:iis s p5.2 with
 | none=>rw [h6] at h;cases h
 | some p6 =>
 rw [h6] at h;simp only [Option.bind_some] at h
 split at h
 ·rename_i hb
  simp only [Option.some.injEq,Prod.mk.injEq] at h;obtain ⟨⟨rfl,rfl,rfl,rfl,rfl,rfl,rfl⟩,rfl⟩:=h;exact hb
 cases h
section
variable {s:ByteArray} {a g c1:Int} {nm:ByteArray} {c2 t b c3 nx c4:Int} {L:List M4} {c5:Int} {G:List Int} {c6:Int}
theorem ibx_n1 (h1:rd s a=none):ibx s a=none:=by unfold ibx;rw [h1];rfl
theorem ibx_n2 (h1:rd s a=some (g,c1)) (h2:rsh s c1=none):ibx s a=none:=by unfold ibx;rw [h1];simp only [Option.bind_some];rw [h2];rfl
theorem ibx_n3 (h1:rd s a=some (g,c1)) (h2:rsh s c1=some (nm,c2)) (h3:rg2 s c2=none):ibx s a=none:=by unfold ibx;rw [h1];simp only [Option.bind_some];rw [h2];simp only [Option.bind_some];rw [h3];rfl
theorem ibx_n4 (h1:rd s a=some (g,c1)) (h2:rsh s c1=some (nm,c2)) (h3:rg2 s c2=some ((t,b),c3)) (h4:rd s c3=none):ibx s a=none:=by unfold ibx;rw [h1];simp only [Option.bind_some];rw [h2];simp only [Option.bind_some];rw [h3];simp only [Option.bind_some];rw [h4];rfl
theorem ibx_n5 (h1:rd s a=some (g,c1)) (h2:rsh s c1=some (nm,c2)) (h3:rg2 s c2=some ((t,b),c3)) (h4:rd s c3=some (nx,c4)) (h5:ims s c4=none):ibx s a=none:=by unfold ibx;rw [h1];simp only [Option.bind_some];rw [h2];simp only [Option.bind_some];rw [h3];simp only [Option.bind_some];rw [h4];simp only [Option.bind_some];rw [h5];rfl
theorem ibx_n6 (h1:rd s a=some (g,c1)) (h2:rsh s c1=some (nm,c2)) (h3:rg2 s c2=some ((t,b),c3)) (h4:rd s c3=some (nx,c4)) (h5:ims s c4=some (L,c5)) (h6:iis s c5=none):ibx s a=none:=by unfold ibx;rw [h1];simp only [Option.bind_some];rw [h2];simp only [Option.bind_some];rw [h3];simp only [Option.bind_some];rw [h4];simp only [Option.bind_some];rw [h5];simp only [Option.bind_some];rw [h6];rfl
theorem ibx_y (h1:rd s a=some (g,c1)) (h2:rsh s c1=some (nm,c2)) (h3:rg2 s c2=some ((t,b),c3)) (h4:rd s c3=some (nx,c4)) (h5:ims s c4=some (L,c5)) (h6:iis s c5=some (G,c6)):ibx s a=if bxOk g nm t b nx L G=true then some ((g,nm,t,b,nx,L,G),c6) else none:=by unfold ibx;rw [h1];simp only [Option.bind_some];rw [h2];simp only [Option.bind_some];rw [h3];simp only [Option.bind_some];rw [h4];simp only [Option.bind_some];rw [h5];simp only [Option.bind_some];rw [h6];rfl
end
structure Rbi (w W:World) (k:Nat) (s:ByteArray) (g:Int) (nm:ByteArray) (t b nx:Int) (mv gv:Value) (c:Int):Prop where
 zero:Bx W w.heap.size 38 0 ⟨#[]⟩ 0 0 0 (.slice none 0 0) (.slice none 0 0)
 box:Bx W (w.heap.size+1) 38 g nm t b nx mv gv
 cur:Dg W k s c
 far:k<w.heap.size
 gr:w.grownBy W (some k)
section
variable {w W W':World} {k:Nat} {s:ByteArray} {g:Int} {nm:ByteArray} {t b nx:Int} {mv gv:Value} {c:Int}
theorem Rbi.later (h:Rbi w W k s g nm t b nx mv gv c) (hb:Below W.heap.size W W'):Rbi w W' k s g nm t b nx mv gv c :=
 ⟨h.zero.later hb,h.box.later hb,h.cur.later hb,h.far,wtr h.gr (grown_below hb _)⟩
theorem Rbi.read {c':Int} (h:Rbi w W k s g nm t b nx mv gv c) (hg:W.grownBy W' (some k)) (hc:Dg W' k s c'):Rbi w W' k s g nm t b nx mv gv c' :=
 have hf:=h.far
 ⟨h.zero.grown hg (by simp;omega),h.box.grown hg (by simp;omega),hc,h.far,wtr h.gr hg⟩
theorem Rbi.put {i:Nat} {x:Value} {g':Int} {nm':ByteArray} {t' b' nx':Int} {mv' gv':Value} (h:Rbi w W k s g nm t b nx mv gv c) (hx:Bx (W.setCell ⟨w.heap.size+1,i,none⟩ x) (w.heap.size+1) 38 g' nm' t' b' nx' mv' gv'):Rbi w (W.setCell ⟨w.heap.size+1,i,none⟩ x) k s g' nm' t' b' nx' mv' gv' c :=
 have hf:=h.far
 ⟨heap_setCell_far x h.zero (by omega),hx,h.cur.far x (by omega),h.far,wst_new h.gr (by omega) i x⟩
end
def Bxr1 (w:World) (k:Nat) (s:ByteArray) (a:Int) (e:Ending) (w':World):Prop :=
 (∃ g nm t b nx L G c ma mc ga gc,ibx s a=some ((g,nm,t,b,nx,L,G),c)∧e=.returned (.agg #[.int .i64 g,.string nm,.int .i64 t,.int .i64 b,.int .i64 nx,.slice ma L.length mc,.slice ga G.length gc])∧Dg w' k s c∧OwB w' w.heap.size (.slice ma L.length mc) (.slice ga G.length gc) L G∧w.grownBy w' (some k))∨(ibx s a=none∧e=.panicked notHere∧w.grownBy w' (some k))
theorem Bxr1.no {w:World} {k:Nat} {s:ByteArray} {a:Int} {w':World} (h:ibx s a=none) (hg:w.grownBy w' (some k)):Bxr1 w k s a (.panicked notHere) w':=Or.inr ⟨h,rfl,hg⟩
theorem rbox_any (k:Nat) (s:ByteArray) (a:Int) (w:World) (hs:s.size≤1048576) (hc:Dg w k s a) :
  Calls Tryz.prog 51 #[.pointer (some ⟨k,0,none⟩)] w fun e w'=>Bxr1 w k s a e w':=by
 have HSZ:=hid hs
 have R0:Hid (Rbi w ((w.alloc (.cells #[.int .i64 0,.string ⟨#[]⟩,.int .i64 0,.int .i64 0,.int .i64 0,.slice none 0 0,.slice none 0 0] 38)).alloc (.cells #[.int .i64 0,.string ⟨#[]⟩,.int .i64 0,.int .i64 0,.int .i64 0,.slice none 0 0,.slice none 0 0] 38)) k s 0 ⟨#[]⟩ 0 0 0 (.slice none 0 0) (.slice none 0 0) a):=hid (by
   have h2:=Bx.new (w.alloc (.cells #[.int .i64 0,.string ⟨#[]⟩,.int .i64 0,.int .i64 0,.int .i64 0,.slice none 0 0,.slice none 0 0] 38)) 38 0 ⟨#[]⟩ 0 0 0 (.slice none 0 0) (.slice none 0 0)
   rw [show (w.alloc (.cells #[.int .i64 0,.string ⟨#[]⟩,.int .i64 0,.int .i64 0,.int .i64 0,.slice none 0 0,.slice none 0 0] 38)).heap.size=w.heap.size+1 by simp] at h2
   exact ⟨(Bx.new w _ _ _ _ _ _ _ _).later (bpush (bre _) _),h2,hc.later (bpush (bpush (bre _) _) _),hc.lt,grown_below (bpush (bpush (bre _) _) _) _⟩)
 obtain ⟨W0,hW0⟩:∃ W,((w.alloc (.cells #[.int .i64 0,.string ⟨#[]⟩,.int .i64 0,.int .i64 0,.int .i64 0,.slice none 0 0,.slice none 0 0] 38)).alloc (.cells #[.int .i64 0,.string ⟨#[]⟩,.int .i64 0,.int .i64 0,.int .i64 0,.slice none 0 0,.slice none 0 0] 38))=W:=⟨_,rfl⟩;rw [hW0] at R0;have HW0:=hid hW0;clear hs hc hW0
 go_enter Tryz.func51,Tryz.ntmps51
 go_wp2_with fail
 rw [HW0.out];clear HW0;refine (numr_any k s a _ HSZ.out R0.out.cur).mono ?_;rintro e w1 (⟨g,c1,hr,rfl,hd,hg⟩ | ⟨hr,rfl,hg⟩)
 case inr =>
  have P:=hid (Bxr1.no (ibx_n1 hr) (wtr R0.out.gr hg));clear hr hg
  go_wp2_with fail
  exact ⟨rfl,P.out⟩
 have H1:=hid hr;have R1:=hid (R0.out.read hg hd);have d8:=R1.out.box.cells;have f8:=R1.out.box.loose;have Q1:=hid (R1.out.put (R1.out.box.s0 g));clear hr hd hg R0
 go_wp2_with fail
 clear d8 f8 R1;refine (short_any k s c1 _ HSZ.out Q1.out.cur).mono ?_;rintro e w2 (⟨nm,c2,hr,rfl,hd,hg⟩ | ⟨hr,rfl,hg⟩)
 case inr =>
  have P:=hid (Bxr1.no (ibx_n2 H1.out hr) (wtr Q1.out.gr hg));clear hr hg
  go_wp2_with fail
  exact ⟨rfl,P.out⟩
 have H2:=hid hr;have HNM:Hid (nm.size≤1048576):=hid (by have:=rsh_size hr;have:=HSZ.out;omega);have R2:=hid (Q1.out.read hg hd);have d8:=R2.out.box.cells;have f8:=R2.out.box.loose;have Q2:=hid (R2.out.put (R2.out.box.s1 nm));clear hr hd hg Q1
 go_wp2_with fail
 clear d8 f8 R2;refine (stmr_any k s c2 _ HSZ.out Q2.out.cur).mono ?_;rintro e w3 (⟨t,b,c3,hr,rfl,hd,hg⟩ | ⟨hr,rfl,hg⟩)
 case inr =>
  have P:=hid (Bxr1.no (ibx_n3 H1.out H2.out hr) (wtr Q2.out.gr hg));clear hr hg
  go_wp2_with fail
  exact ⟨rfl,P.out⟩
 have H3:=hid hr;have R3:=hid (Q2.out.read hg hd);have d8:=R3.out.box.cells;have f8:=R3.out.box.loose;have Q3a:=R3.out.put (R3.out.box.s2 t);have Q3:=hid (Q3a.put (Q3a.box.s3 b));clear hr hd hg Q2 Q3a
 go_wp2_with fail
 clear d8 f8 R3;refine (numr_any k s c3 _ HSZ.out Q3.out.cur).mono ?_;rintro e w4 (⟨nx,c4,hr,rfl,hd,hg⟩ | ⟨hr,rfl,hg⟩)
 case inr =>
  have P:=hid (Bxr1.no (ibx_n4 H1.out H2.out H3.out hr) (wtr Q3.out.gr hg));clear hr hg
  go_wp2_with fail
  exact ⟨rfl,P.out⟩
 have H4:=hid hr;have R4:=hid (Q3.out.read hg hd);have d8:=R4.out.box.cells;have f8:=R4.out.box.loose;have Q4:=hid (R4.out.put (R4.out.box.s4 nx));clear hr hd hg Q3
 go_wp2_with fail
 clear d8 f8 R4;refine (lmails_any k s c4 _ HSZ.out Q4.out.cur).mono ?_;rintro e w5 (⟨L,Z,v,c5,hr,hZ,rfl,hd,ho,hg⟩ | ⟨hr,rfl,hg⟩)
 case inr =>
  have P:=hid (Bxr1.no (ibx_n5 H1.out H2.out H3.out H4.out hr) (wtr Q4.out.gr hg));clear hr hg
  go_wp2_with fail
  exact ⟨rfl,P.out⟩
 have H5:=hid hr
 have hlen:Z.length=L.length:=by rw [← hZ,List.length_map]
 have HZ:=hid hZ;have hsz4:=Q4.out.box.lt;obtain ⟨ma,mc,hv⟩:=ho.shape;subst hv;rw [hlen] at ho;rw [hlen]
 have HL:Hid (L.length≤1048576∧Sm L):=hid (by
   have h1:=hr
   unfold ims at h1
   cases h2:rd s c4 with
   | none=>rw [h2] at h1;cases h1
   | some p =>
     rw [h2] at h1
     simp only [Option.bind_some] at h1
     have h3:=rms_end h1
     have h4:=rms_right h1
     have h5:=rd_lt (n:=p.1) (c:=p.2) h2
     have h6:=HSZ.out
     refine ⟨?_,sm_right h4.2⟩
     by_cases h7:0<p.1.toNat
     · have:=h3.2.2 h7;omega
     · omega)
 have R5:=hid (Q4.out.read hg hd);have d8:=R5.out.box.cells;have f8:=R5.out.box.loose;have Q5:=hid (R5.out.put (R5.out.box.s5 (.slice ma L.length mc)));have O5:Hid (OwZ (w5.setCell ⟨w.heap.size+1,5,none⟩ (.slice ma L.length mc)) _ (.slice ma L.length mc) Z):=hid (ho.grown (wst (wre w5 (some (w.heap.size+1))) 5 (.slice ma L.length mc)) hsz4);have S5:Hid (w.heap.size+1<(w4.setCell ⟨w.heap.size+1,4,none⟩ (.int .i64 nx)).heap.size):=hid hsz4;have S45:Hid ((w4.setCell ⟨w.heap.size+1,4,none⟩ (.int .i64 nx)).heap.size≤w5.heap.size):=hid hg.size;obtain ⟨B5,hB5⟩:∃ n,(w4.setCell ⟨w.heap.size+1,4,none⟩ (.int .i64 nx)).heap.size=n:=⟨_,rfl⟩;rw [hB5] at O5 S5 S45;obtain ⟨mn,hmn⟩:∃ n,L.length=n:=⟨_,rfl⟩;rw [hmn] at Q5 O5 HL;rw [hmn];have HMN:=hid hmn;clear hr hd hg ho Q4 hZ hlen hsz4 hB5 hmn
 go_wp2_with fail
 clear d8 f8 R5;refine (lints_any k s c5 _ HSZ.out Q5.out.cur).mono ?_;rintro e w6 (⟨G,gv,c6,hr,rfl,hd,ho,hg⟩ | ⟨hr,rfl,hg⟩)
 case inr =>
  have P:=hid (Bxr1.no (ibx_n6 H1.out H2.out H3.out H4.out H5.out hr) (wtr Q5.out.gr hg));clear hr hg
  go_wp2_with fail
  exact ⟨rfl,P.out⟩
 have H6:=hid hr;have hsz5:=Q5.out.box.lt;have hk:=Q5.out.far;have hs5:=S5.out;have O6a:=O5.out.grown hg (by omega);have hrow:Hid (∀ j,(Value.slice ma mn mc).ownBlock=some j→j<(w5.setCell ⟨w.heap.size+1,5,none⟩ (.slice ma mn mc)).heap.size):=hid (fun j hj=>(O5.out.row.lt j hj).2);have heach:Hid (∀ y∈Z,∀ j,y.2.2.1.ownBlock=some j→j<(w5.setCell ⟨w.heap.size+1,5,none⟩ (.slice ma mn mc)).heap.size):=hid (fun y hy j hj=>(World.ownsRow.lt (O5.out.each y hy) j hj).2);obtain ⟨ga,gc,hv,_⟩:=OwI.shape ho;subst hv
 have HG:Hid (G.length≤1048576):=hid (by
   have h1:=hr
   unfold iis at h1
   cases h2:rd s c5 with
   | none=>rw [h2] at h1;cases h1
   | some p =>
     rw [h2] at h1
     simp only [Option.bind_some] at h1
     have h3:=rds_lt h1
     have h4:=rds_len h1
     have h5:=rd_lt (n:=p.1) (c:=p.2) h2
     have h6:=HSZ.out
     by_cases h7:0<p.1.toNat
     · have:=h3.2 h7;omega
     · omega)
 have R6:=hid (Q5.out.read hg hd);have d8:=R6.out.box.cells;have f8:=R6.out.box.loose;have Q6:=hid (R6.out.put (R6.out.box.s6 (.slice ga G.length gc)));have O6:Hid (OwZ (w6.setCell ⟨w.heap.size+1,6,none⟩ (.slice ga G.length gc)) B5 (.slice ma mn mc) Z):=hid (O6a.grown (wst (wre w6 (some (w.heap.size+1))) 6 (.slice ga G.length gc)) hs5);have I6:Hid (OwI (w6.setCell ⟨w.heap.size+1,6,none⟩ (.slice ga G.length gc)) (w5.setCell ⟨w.heap.size+1,5,none⟩ (.slice ma mn mc)).heap.size (.slice ga G.length gc) G):=hid (ownI_far ho (wst (wre w6 (some (w.heap.size+1))) 6 (.slice ga G.length gc)) hsz5);have HFAR:Hid (∀ j,(Value.slice ga G.length gc).ownBlock=some j→(w5.setCell ⟨w.heap.size+1,5,none⟩ (.slice ma mn mc)).heap.size≤j):=hid (fun j hj=>(World.ownsRow.lt ho j hj).1);have S6:Hid (B5≤(w5.setCell ⟨w.heap.size+1,5,none⟩ (.slice ma mn mc)).heap.size):=hid (by have h1:=S45.out;simpa [World.setCell] using h1);obtain ⟨B6,hB6⟩:∃ n,(w5.setCell ⟨w.heap.size+1,5,none⟩ (.slice ma mn mc)).heap.size=n:=⟨_,rfl⟩;rw [hB6] at I6 HFAR hrow heach S6;obtain ⟨gn,hgn⟩:∃ n,G.length=n:=⟨_,rfl⟩;rw [hgn] at Q6 O6 I6 HG HFAR;rw [hgn];have HGN:=hid hgn;clear hr hd hg ho Q5 hsz5 hk hs5 hB6 O6a hgn O5
 go_wp2_with fail
 clear d8 f8 R6;obtain ⟨W6,hW6⟩:∃ W,w6.setCell ⟨w.heap.size+1,6,none⟩ (.slice ga gn gc)=W:=⟨_,rfl⟩;rw [hW6] at Q6 O6 I6
 try rw [hW6]
 have e8:=Q6.out.box.cells;clear hW6;obtain ⟨q,hq⟩:∃ q,bxOk g nm t b nx L G=q:=⟨_,rfl⟩;have CB:=implBoxOk_any _ _ _ _ g nm t b nx ma mn mc ga gn gc L G W6 HNM.out HMN.out HL.out.1 HL.out.2 (HZ.out ▸ (O6.out.ms).2) HGN.out HG.out (OwI.is I6.out).2;rw [hq] at CB;have HRB:Hid (ibx s a=if q=true then some ((g,nm,t,b,nx,L,G),c6) else none):=hid (by rw [ibx_y H1.out H2.out H3.out H4.out H5.out H6.out,hq]);refine CB.mono ?_;rintro e w7 ⟨rfl,hb7⟩;have R7:=hid (Q6.out.later hb7);have O7:=hid (O6.out.later hb7);have I7:=hid (own_later I6.out hb7);have d8:=R7.out.box.cells;have d4:=R7.out.zero.cells;have f4:=R7.out.zero.loose;clear hb7 CB e8 Q6 O6 I6
 cases q
 ·have P:=hid (Bxr1.no (by rw [HRB.out];rfl) R7.out.gr)
  go_wp2_with fail
  refine (must_no _).mono ?_;rintro e w8 ⟨rfl,rfl⟩
  go_wp2_with fail
  exact ⟨rfl,P.out⟩
 go_wp2_with fail
 refine (must_yes _).mono ?_;rintro e w8 ⟨rfl,rfl⟩
 go_wp2
 have hX:=Bx.set7 R7.out.zero g nm t b nx (.slice ma mn mc) (.slice ga gn gc);unfold set7 at hX;have d:=hX.cells;have hmn:=HMN.out;have hgn:=HGN.out;refine bodyPost_ret (v:=.agg #[.int .i64 g,.string nm,.int .i64 t,.int .i64 b,.int .i64 nx,.slice ma mn mc,.slice ga gn gc]) (by simp [results,Tryz.results51,go_sem,d]) rfl ?_;have hg7:=(wst (wst (wst (wst (wst (wst (wst (wre w8 (some w.heap.size)) 0 (.int .i64 g)) 1 (.string nm)) 2 (.int .i64 t)) 3 (.int .i64 b)) 4 (.int .i64 nx)) 5 (.slice ma mn mc)) 6 (.slice ga gn gc));have l1:=R7.out.far;have l2:=S5.out;have l3:=S6.out;refine Or.inl ⟨g,nm,t,b,nx,L,G,c6,ma,mc,ga,gc,by rw [HRB.out];rfl,by rw [hmn,hgn],?_,?_,?_⟩
 ·exact (hg7.block k (by have:=R7.out.gr.size;omega) (by simp;omega)).trans R7.out.cur
 ·rw [hmn,hgn]
  exact ⟨Z,HZ.out,(O7.out.grown hg7 (by omega)).base (by omega),own_base (ownI_far I7.out hg7 (by omega)) (by omega),fun j h1 h2=>by have h3:=HFAR.out j h1;have h4:=hrow.out j h2;omega,fun y hy j h1 h2=>by have h3:=HFAR.out j h1;have h4:=heach.out y hy j h2;omega⟩
 exact wst_new (wst_new (wst_new (wst_new (wst_new (wst_new (wst_new R7.out.gr (Nat.le_refl _) 0 _) (Nat.le_refl _) 1 _) (Nat.le_refl _) 2 _) (Nat.le_refl _) 3 _) (Nat.le_refl _) 4 _) (Nat.le_refl _) 5 _) (Nat.le_refl _) 6 _
structure Kept2 (w w':World) (kr km:Nat):Prop where
 os:w'.os=w.os
 tape:w'.tape=w.tape
 output:w'.output=w.output
 size:w.heap.size≤w'.heap.size
 block:∀ j,j<w.heap.size→j≠kr→j≠km→w'.heap[j]?=w.heap[j]?
theorem Kept2.of_grown {w w':World} {kr km:Nat} (h:w.grownBy w' (some kr)):Kept2 w w' kr km:=⟨h.os,h.tape,h.output,h.size,fun j hj h1 _=>h.block j hj (by simpa using h1)⟩
theorem Kept2.set {w w':World} {kr km:Nat} (h:Kept2 w w' kr km) (i:Nat) (x:Value):Kept2 w (w'.setCell ⟨km,i,none⟩ x) kr km :=
 ⟨h.os,h.tape,h.output,by simpa [World.setCell] using h.size,fun j hj h1 h2=>(Below.heap_setCell w' ⟨km,i,none⟩ x j h2).trans (h.block j hj h1 h2)⟩
theorem Kept2.new {w w':World} {kr km:Nat} (h:Kept2 w w' kr km) {j:Nat} (hj:w.heap.size≤j) (i:Nat) (x:Value):Kept2 w (w'.setCell ⟨j,i,none⟩ x) kr km :=
 ⟨h.os,h.tape,h.output,by simpa [World.setCell] using h.size,fun k hk h1 h2=>(Below.heap_setCell w' ⟨j,i,none⟩ x k (by show k≠j;omega)).trans (h.block k hk h1 h2)⟩
theorem Kept2.later {w w' w'':World} {kr km:Nat} (h:Kept2 w w' kr km) (hb:Below w'.heap.size w' w''):Kept2 w w'' kr km :=
 ⟨hb.os.trans h.os,hb.tape.trans h.tape,hb.output.trans h.output,Nat.le_trans h.size hb.size,fun k hk h1 h2=>(hb.block k (Nat.lt_of_lt_of_le hk h.size)).trans (h.block k hk h1 h2)⟩
theorem Kept2.push {w w':World} {o:Obj} {kr km:Nat} (h:Kept2 (w.alloc o) w' kr km):Kept2 w w' kr km:=by
 have hb:=bpush (bre w) o;exact ⟨h.os.trans hb.os,h.tape.trans hb.tape,h.output.trans hb.output,Nat.le_trans hb.size h.size,fun k hk h1 h2=>(h.block k (Nat.lt_of_lt_of_le hk hb.size) h1 h2).trans (hb.block k hk)⟩
theorem Kept2.below {w w':World} {B kr km:Nat} (h:Kept2 w w' kr km) (hr:B≤kr) (hm:B≤km) (hB:B≤w.heap.size):Below B w w' :=
 ⟨h.os,h.tape,h.output,h.size,fun j hj=>h.block j (by omega) (by omega) (by omega)⟩
theorem alloc_size (w:World) (o:Obj):(w.alloc o).heap.size=w.heap.size+1:=by simp
def Fg (W:World) (k ty f:Nat):Prop:=W.heap[k]?=some (.cells #[.func (.func f) #[] #[]] ty (0,0))
theorem Fg.lt {W:World} {k ty f:Nat} (h:Fg W k ty f):k<W.heap.size:=(Array.getElem?_eq_some_iff.1 h).1
theorem Fg.later {W W':World} {k ty f:Nat} (h:Fg W k ty f) (hb:Below W.heap.size W W'):Fg W' k ty f:=(hb.block k h.lt).trans h
theorem Fg.cell {W:World} {k ty f:Nat} (h:Fg W k ty f):W.cell? ⟨k,0,none⟩=some (.func (.func f) #[] #[]):=cell_of_row W k 0 _ _ _ h
theorem drewBox {W:World} {B:Nat} {mv gv:Value} {L:List M4} {G:List Int} (h:OwB W B mv gv L G):OwB W.drew B mv gv L G:=h.later (bdr (bre W))
def CloBox (w:World) (kr km:Nat) (s:ByteArray) (a:Int) (w':World):Prop :=
 ∃ g nm t b nx L G c ma mc ga gc,ibx s a=some ((g,nm,t,b,nx,L,G),c)∧Dg w' kr s c∧Bx w' km 38 g nm t b nx (.slice ma L.length mc) (.slice ga G.length gc)∧OwB w' w.heap.size (.slice ma L.length mc) (.slice ga G.length gc) L G∧Kept2 w w' kr km
theorem closBox_any (kf kr km ft:Nat) (s:ByteArray) (a:Int) (w:World) (hs:s.size≤1048576) (hf:Fg w kf ft 51) (hd:Dg w kr s a) (hm:Bx w km 38 0 ⟨#[]⟩ 0 0 0 (.slice none 0 0) (.slice none 0 0)) (hne:kr≠km) :
  Calls Tryz.prog 103 #[.pointer (some ⟨kf,0,none⟩),.pointer (some ⟨kr,0,none⟩),.pointer (some ⟨km,0,none⟩)] w fun e w'=>(e=.returned (.tuple #[])∧CloBox w kr km s a w')∨(e=.panicked notHere∧ibx s a=none∧w.grownBy w' (some kr)):=by
 have HD:=hid hd;have HM:=hid hm;have HS:=hid hs;have HNE:=hid hne;have cf:=hf.cell;clear hd hm hs hne hf
 go_enter Tryz.func103,Tryz.ntmps103
 go_wp2_with fail
 refine (rbox_any kr s a _ HS.out HD.out).mono ?_;rintro e w1 (⟨g,nm,t,b,nx,L,G,c,ma,mc,ga,gc,hr,rfl,hd,ho,hg⟩ | ⟨hr,rfl,hg⟩)
 case inr =>
  have H:=hid hr;have G:=hid hg;clear hr hg
  go_wp2_with fail
  exact ⟨rfl,Or.inr ⟨rfl,H.out,G.out⟩⟩
 have H:=hid hr;have M1:=hid (HM.out.grown hg (by have:=HNE.out;simp;omega));have D1:=hid hd;have O1:=hid ho;have K1:Hid (Kept2 w w1 kr km):=Kept2.of_grown hg;have LM:Hid (km<w.heap.size):=HM.out.lt;have c:=M1.out.cells;have f:=M1.out.loose;clear hr hd ho hg cf
 go_wp2
 go_end0
 have hne:=HNE.out;have hX:=Bx.set7 M1.out g nm t b nx (.slice ma L.length mc) (.slice ga G.length gc);unfold set7 at hX;refine Or.inl ⟨rfl,g,nm,t,b,nx,L,G,_,ma,mc,ga,gc,H.out,?_,hX,?_,?_⟩
 ·exact ((wst (wst (wst (wst (wst (wst (wst (wre w1 (some km)) _ _) _ _) _ _) _ _) _ _) _ _) _ _).block kr D1.out.lt (by simp;omega)).trans D1.out
 ·exact OwB.grown (O1.out) ((wst (wst (wst (wst (wst (wst (wst (wre w1 (some km)) _ _) _ _) _ _) _ _) _ _) _ _) _ _)) (LM.out)
 exact (((((((K1.out.set _ _).set _ _).set _ _).set _ _).set _ _).set _ _).set _ _)
theorem wholeBox_any (p1 p2 p3:Value) (w:World) (Y N:World→Prop) (hF:Calls Tryz.prog 103 #[p1,p2,p3] (w.alloc (.cells #[.bool false] 4)) fun e w1=>(e=.returned (.tuple #[])∧Y w1)∨(e=.panicked notHere∧N w1)) (hY:∀ w1,Y w1→Bwd w1 w.heap.size false) (hN:∀ w1,N w1→Bwd w1 w.heap.size false) :
  Calls Tryz.prog 102 #[.func (.func 103) #[] #[p1,p2,p3]] w fun e w'=>(e=.returned (.bool true)∧∃ w1,Y w1∧w'=(w1.setCell ⟨w.heap.size,0,none⟩ (.bool true)).alloc (.cells #[] 146))∨(e=.returned (.bool false)∧∃ w1,N w1∧w'=(w1.alloc (.cells #[] 146)).setCell ⟨w.heap.size,0,none⟩ (.bool false)):=by
 have hmf:∀ (fn:Fn) (first cap:Array Value) (w:World),(Instr.makeFunc fn first cap).run Tryz.prog w=.ok (.func fn first cap) w:=fun _ _ _ _=>rfl;have HF:=hid hF;have HY:=hid hY;have HN:=hid hN;have B0:=hid (Bwd.new w false);have c0:=B0.out.cell;clear hF hY hN
 go_enter_defers Tryz.func102,Tryz.ntmps102
 go_wp2_with fail
 refine HF.out.mono ?_;rintro e w1 (⟨rfl,hy⟩ | ⟨rfl,hn⟩)
 case inr =>
  have B1:Hid (Bwd w1 w.heap.size false):=HN.out w1 hn;have HNN:=hid hn;clear hn c0
  go_wp2_with fail
  refine leaves_cons (f:=142) (args:=#[.pointer (some ⟨w.heap.size,0,none⟩)]) (by simp) (by simp [go_sem]) ?_;refine (catch_panic w.heap.size false [] _ B1.out).mono ?_;rintro e u' w'' ⟨rfl,rfl,rfl⟩;have cc:=((B1.out.later (bpush (bre w1) (.cells #[] 146))).set false).cell
  simp [Leaves,settle,results,Tryz.results102,go_sem,cc]
  exact ⟨w1,HNN.out,rfl⟩
 have B1:Hid (Bwd w1 w.heap.size false):=HY.out w1 hy;have HYY:=hid hy;have c1:=B1.out.cell;have f1:=B1.out.loose;clear hy c0
 go_wp2
 have N2:=hid (bpush (bre (w1.setCell ⟨w.heap.size,0,none⟩ (.bool true))) (.cells #[] 146));have cc:=((B1.out.set true).later N2.out).cell;refine leaves_cons (f:=142) (args:=#[.pointer (some ⟨w.heap.size,0,none⟩)]) (by simp) (by simp [go_sem]) ?_;refine (catch_idle w.heap.size _).mono ?_;rintro e u' w'' ⟨rfl,rfl,rfl⟩
 simp [Leaves,settle,results,Tryz.results102,go_sem,cc]
 exact ⟨w1,HYY.out,rfl⟩
def RaBox (s:ByteArray) (a:Int) (w:World) (e:Ending) (w':World):Prop :=
 (∃ g nm t b nx L G c ma mc ga gc,ibx s a=some ((g,nm,t,b,nx,L,G),c)∧e=.returned (.tuple #[.agg #[.int .i64 g,.string nm,.int .i64 t,.int .i64 b,.int .i64 nx,.slice ma L.length mc,.slice ga G.length gc],.int .i64 c,.bool true])∧OwB w' w.heap.size (.slice ma L.length mc) (.slice ga G.length gc) L G∧Below w.heap.size w w') ∨
 (ibx s a=none∧e=.returned (.tuple #[.agg #[.int .i64 0,.string ⟨#[]⟩,.int .i64 0,.int .i64 0,.int .i64 0,.slice none 0 0,.slice none 0 0],.int .i64 0,.bool false])∧Below w.heap.size w w')
theorem blocksBox (w:World) (ft:Nat) (s:ByteArray) (a:Int) (W0:World) (h:((w.alloc (.cells #[.func (.func 51) #[] #[]] ft)).alloc (.cells #[.int .i64 0,.string ⟨#[]⟩,.int .i64 0,.int .i64 0,.int .i64 0,.slice none 0 0,.slice none 0 0] 38)).alloc (.cells #[.string s,.int .i64 a] 128)=W0) :
  Fg W0 w.heap.size ft 51∧Bx W0 (w.heap.size+1) 38 0 ⟨#[]⟩ 0 0 0 (.slice none 0 0) (.slice none 0 0)∧Dg W0 (w.heap.size+1+1) s a∧Below w.heap.size w W0:=by
 subst h;have h1:Fg (w.alloc (.cells #[.func (.func 51) #[] #[]] ft)) w.heap.size ft 51:=heap_alloc_new w _;have h2:=Bx.new (w.alloc (.cells #[.func (.func 51) #[] #[]] ft)) 38 0 ⟨#[]⟩ 0 0 0 (.slice none 0 0) (.slice none 0 0);have h3:=Dg.new ((w.alloc (.cells #[.func (.func 51) #[] #[]] ft)).alloc (.cells #[.int .i64 0,.string ⟨#[]⟩,.int .i64 0,.int .i64 0,.int .i64 0,.slice none 0 0,.slice none 0 0] 38)) s a;rw [alloc_size w] at h2;rw [alloc_size (w.alloc _),alloc_size w] at h3;exact ⟨h1.later (bpush (bpush (bre _) _) _),h2.later (bpush (bre _) _),h3,bpush (bpush (bpush (bre _) _) _) _⟩
theorem readAtBox_any (s:ByteArray) (a:Int) (w:World) (hs:s.size≤1048576) :
  Calls Tryz.prog 50 #[.string s,.int .i64 a,.func (.func 51) #[] #[]] w fun e w'=>RaBox s a w e w':=by
 have hmf:∀ (fn:Fn) (first cap:Array Value) (w:World),(Instr.makeFunc fn first cap).run Tryz.prog w=.ok (.func fn first cap) w:=fun _ _ _ _=>rfl;have HSZ:=hid hs;obtain ⟨W0,hW0⟩:∃ W0,((w.alloc (.cells #[.func (.func 51) #[] #[]] 81)).alloc (.cells #[.int .i64 0,.string ⟨#[]⟩,.int .i64 0,.int .i64 0,.int .i64 0,.slice none 0 0,.slice none 0 0] 38)).alloc (.cells #[.string s,.int .i64 a] 128)=W0:=⟨_,rfl⟩;obtain ⟨f0,x0,d0,b0⟩:=blocksBox w _ s a W0 hW0;have N1:=hid (bpush (bre W0) (.cells #[.bool false] 4));have LW:Hid (w.heap.size+1+1<W0.heap.size):=d0.lt;have L1:Hid (W0.heap.size<(W0.alloc (.cells #[.bool false] 4)).heap.size):=hid (by show _<_;simp);have HB:=hid b0;have BG:=hid (Bwd.new W0 false)
 have CL:=wholeBox_any (.pointer (some ⟨w.heap.size,0,none⟩)) (.pointer (some ⟨w.heap.size+1+1,0,none⟩)) (.pointer (some ⟨w.heap.size+1,0,none⟩)) W0 _ _ (closBox_any w.heap.size (w.heap.size+1+1) (w.heap.size+1) _ s a _ hs (f0.later N1.out) (d0.later N1.out) (x0.later N1.out) (by omega)) (by
   rintro w1 ⟨g,nm,t,b,nx,L,G,c,ma,mc,ga,gc,_,_,_,_,hk⟩
   have l1:=LW.out
   exact (hk.block W0.heap.size BG.out.lt (by omega) (by omega)).trans BG.out) (by
   rintro w1 ⟨_,hk⟩
   have l1:=LW.out
   exact BG.out.grown hk (by simp;omega))
 have HCL:=hid CL;have X0:=hid x0;have HW0:=hid hW0;clear hs hW0 f0 x0 d0 b0 CL
 go_enter Tryz.func50,Tryz.ntmps50
 go_wp2_with fail
 rw [HW0.out];refine HCL.out.mono ?_;rintro e w1 (⟨rfl,w2,hy,rfl⟩ | ⟨rfl,w2,⟨hr,hk⟩,rfl⟩)
 case inr =>
  have H:=hid hr;have l1:=LW.out;have l2:=L1.out;have E2:Hid (Below w.heap.size w ((w2.alloc (.cells #[] 146)).setCell ⟨W0.heap.size,0,none⟩ (.bool false))):=hid (bsk (btr (HB.out.trans (N1.out.mono (by omega) |>.trans (below_grownR hk (by intro j hj;simp at hj;omega) (by omega)))) (bpush (bre w2) _)) (by omega) 0 _);have F2:Hid (Bx ((w2.alloc (.cells #[] 146)).setCell ⟨W0.heap.size,0,none⟩ (.bool false)) (w.heap.size+1) 38 0 ⟨#[]⟩ 0 0 0 (.slice none 0 0) (.slice none 0 0)):=hid (heap_setCell_far _ (((X0.out.later N1.out).grown hk (by simp)).later (bpush (bre w2) _)) (by omega));obtain ⟨w3,hw3⟩:∃ x,(w2.alloc (.cells #[] 146)).setCell ⟨W0.heap.size,0,none⟩ (.bool false)=x:=⟨_,rfl⟩;rw [hw3] at E2 F2;rw [hw3];have d:=F2.out.cells;have f:=F2.out.loose;clear hr hk hw3 l1 l2
  go_wp2
  have hX:=Bx.set7 F2.out 0 ⟨#[]⟩ 0 0 0 (.slice none 0 0) (.slice none 0 0);unfold set7 at hX;have d:=hX.cells;exact bodyPost_ret (v:=.tuple #[.agg #[.int .i64 0,.string ⟨#[]⟩,.int .i64 0,.int .i64 0,.int .i64 0,.slice none 0 0,.slice none 0 0],.int .i64 0,.bool false]) (by simp [results,Tryz.results50,go_sem,d]) rfl (Or.inr ⟨H.out,rfl,E2.out.trans (below_grownR (wst (wst (wst (wst (wst (wst (wst (wre w3 (some (w.heap.size+1))) 0 (.int .i64 0)) 1 (.string ⟨#[]⟩)) 2 (.int .i64 0)) 3 (.int .i64 0)) 4 (.int .i64 0)) 5 (.slice none 0 0)) 6 (.slice none 0 0)) (by intro j hj;simp at hj;omega) E2.out.size)⟩)
 obtain ⟨g,nm,t,b,nx,L,G,c,ma,mc,ga,gc,hr,hd,hx,ho,hk⟩:=hy;have H:=hid hr;have l1:=LW.out;have l2:=L1.out;have K2:Hid (Kept2 W0 w2 (w.heap.size+1+1) (w.heap.size+1)):=hid hk.push;have N3:=hid (bpush (bre (w2.setCell ⟨W0.heap.size,0,none⟩ (.bool true))) (.cells #[] 146));have E2:Hid (Below w.heap.size w ((w2.setCell ⟨W0.heap.size,0,none⟩ (.bool true)).alloc (.cells #[] 146))):=hid (HB.out.trans (((K2.out.new (Nat.le_refl _) _ _).later N3.out).below (by omega) (by omega) (by omega)));have D2:=hid ((hd.far (j:=W0.heap.size) (i:=0) (.bool true) (by omega)).later N3.out);have X2:Hid (Bx ((w2.setCell ⟨W0.heap.size,0,none⟩ (.bool true)).alloc (.cells #[] 146)) (w.heap.size+1) 38 g nm t b nx (.slice ma L.length mc) (.slice ga G.length gc)):=hid (((show Bx (w2.setCell ⟨W0.heap.size,0,none⟩ (.bool true)) (w.heap.size+1) 38 g nm t b nx (.slice ma L.length mc) (.slice ga G.length gc) from heap_setCell_far _ hx (by omega))).later N3.out);have O2:=hid (OwB.later (OwB.grown (ho) (wst (wre w2 (some W0.heap.size)) 0 (.bool true)) (l2)) N3.out);obtain ⟨w3,hw3⟩:∃ x,(w2.setCell ⟨W0.heap.size,0,none⟩ (.bool true)).alloc (.cells #[] 146)=x:=⟨_,rfl⟩;rw [hw3] at E2 D2 X2 O2;rw [hw3];have d:=X2.out.cells;have f:=X2.out.loose;have dd:=D2.out.cells;clear hr hd hx ho hk hw3 l1 l2 K2 N3
 go_wp2_with fail
 go_region
 all_goals go_wp2
 all_goals
  have hX:=Bx.set7 X2.out g nm t b nx (.slice ma L.length mc) (.slice ga G.length gc);unfold set7 at hX;have d3:=hX.cells;have l1:=LW.out;have l2:=L1.out;refine bodyPost_ret (v:=.tuple #[.agg #[.int .i64 g,.string nm,.int .i64 t,.int .i64 b,.int .i64 nx,.slice ma L.length mc,.slice ga G.length gc],.int .i64 c,.bool true]) (by simp [results,Tryz.results50,go_sem,d3]) rfl (Or.inl ⟨g,nm,t,b,nx,L,G,c,ma,mc,ga,gc,H.out,rfl,?_,?_⟩)
  ·first | exact drewBox (OwB.base (OwB.grown (O2.out) ((wst (wst (wst (wst (wst (wst (wst (wre w3 (some (w.heap.size+1))) 0 (.int .i64 g)) 1 (.string nm)) 2 (.int .i64 t)) 3 (.int .i64 b)) 4 (.int .i64 nx)) 5 (.slice ma L.length mc)) 6 (.slice ga G.length gc))) (by omega)) (show w.heap.size≤_ by omega)) | exact OwB.base (OwB.grown (drewBox O2.out) ((wst (wst (wst (wst (wst (wst (wst (wre w3.drew (some (w.heap.size+1))) 0 (.int .i64 g)) 1 (.string nm)) 2 (.int .i64 t)) 3 (.int .i64 b)) 4 (.int .i64 nx)) 5 (.slice ma L.length mc)) 6 (.slice ga G.length gc))) (by omega)) (show w.heap.size≤_ by omega)
  first | exact bdr (E2.out.trans (below_grownR (wst (wst (wst (wst (wst (wst (wst (wre w3 (some (w.heap.size+1))) 0 (.int .i64 g)) 1 (.string nm)) 2 (.int .i64 t)) 3 (.int .i64 b)) 4 (.int .i64 nx)) 5 (.slice ma L.length mc)) 6 (.slice ga G.length gc)) (by intro j hj;simp at hj;omega) E2.out.size)) | exact (bdr E2.out).trans (below_grownR (wst (wst (wst (wst (wst (wst (wst (wre w3.drew (some (w.heap.size+1))) 0 (.int .i64 g)) 1 (.string nm)) 2 (.int .i64 t)) 3 (.int .i64 b)) 4 (.int .i64 nx)) 5 (.slice ma L.length mc)) 6 (.slice ga G.length gc)) (by intro j hj;simp at hj;omega) E2.out.size)
theorem implReadBox_any (s:ByteArray) (a:Int) (w:World) (hs:s.size≤1048576) :
  Calls Tryz.prog 13 #[.string s,.int .i64 a] w fun e w'=>RbPost s a w e w':=by
 have HSZ:=hid hs;have Z0:=hid (Bx.new w 38 0 ⟨#[]⟩ 0 0 0 (.slice none 0 0) (.slice none 0 0));have LZ:Hid (w.heap.size<(w.alloc (.cells #[.int .i64 0,.string ⟨#[]⟩,.int .i64 0,.int .i64 0,.int .i64 0,.slice none 0 0,.slice none 0 0] 38)).heap.size):=Z0.out.lt;clear hs
 go_enter Tryz.func13,Tryz.ntmps13
 go_wp2_with fail
 refine (readAtBox_any s a _ HSZ.out).mono ?_;rintro e w1 (⟨g,nm,t,b,nx,L,G,c,ma,mc,ga,gc,hr,rfl,ho,hb⟩ | ⟨hr,rfl,hb⟩)
 ·have H:=hid hr
  have F:=hid (Z0.out.later hb);have E:=hid (btr (bpush (bre w) _) hb);have O:=hid ho;have d:=F.out.cells;have f:=F.out.loose;clear hr ho hb Z0
  go_wp2
  have hX:=Bx.set7 F.out g nm t b nx (.slice ma L.length mc) (.slice ga G.length gc);unfold set7 at hX;have d:=hX.cells;have hlz:=LZ.out;refine bodyPost_ret (v:=.tuple #[.agg #[.int .i64 g,.string nm,.int .i64 t,.int .i64 b,.int .i64 nx,.slice ma L.length mc,.slice ga G.length gc],.int .i64 c,.bool true]) (by simp [results,Tryz.results13,go_sem,d]) rfl (Or.inr ⟨g,nm,t,b,nx,L,G,c,_,_,(ibx_rbx s a).symm.trans H.out,ibx_right H.out,rfl,?_,?_⟩)
  ·have hO:=OwB.base (OwB.grown (O.out) ((wst (wst (wst (wst (wst (wst (wst (wre w1 (some (w.heap.size))) 0 (.int .i64 g)) 1 (.string nm)) 2 (.int .i64 t)) 3 (.int .i64 b)) 4 (.int .i64 nx)) 5 (.slice ma L.length mc)) 6 (.slice ga G.length gc))) (hlz)) (show w.heap.size≤_ by omega)
   exact hO
  exact E.out.trans (below_grownR (wst (wst (wst (wst (wst (wst (wst (wre w1 (some (w.heap.size))) 0 (.int .i64 g)) 1 (.string nm)) 2 (.int .i64 t)) 3 (.int .i64 b)) 4 (.int .i64 nx)) 5 (.slice ma L.length mc)) 6 (.slice ga G.length gc)) (by intro j hj;simp at hj;omega) E.out.size)
 have H:=hid hr;have F:=hid (Z0.out.later hb);have E:=hid (btr (bpush (bre w) _) hb);have d:=F.out.cells;have f:=F.out.loose;clear hr hb Z0
 go_wp2
 have hX:=Bx.set7 F.out 0 ⟨#[]⟩ 0 0 0 (.slice none 0 0) (.slice none 0 0);unfold set7 at hX;have d:=hX.cells;refine bodyPost_ret (v:=.tuple #[.agg #[.int .i64 0,.string ⟨#[]⟩,.int .i64 0,.int .i64 0,.int .i64 0,.slice none 0 0,.slice none 0 0],.int .i64 0,.bool false]) (by simp [results,Tryz.results13,go_sem,d]) rfl (Or.inl ⟨(ibx_rbx s a).symm.trans H.out,rfl,?_⟩);exact E.out.trans (below_grownR (wst (wst (wst (wst (wst (wst (wst (wre w1 (some (w.heap.size))) 0 (.int .i64 0)) 1 (.string ⟨#[]⟩)) 2 (.int .i64 0)) 3 (.int .i64 0)) 4 (.int .i64 0)) 5 (.slice none 0 0)) 6 (.slice none 0 0)) (by intro j hj;simp at hj;omega) E.out.size)
end Go.Proofs.YtdkedgedkgabnaaGreatDoor
