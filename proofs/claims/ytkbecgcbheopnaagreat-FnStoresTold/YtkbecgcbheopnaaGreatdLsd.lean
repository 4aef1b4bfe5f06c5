/- Lsd. -/

import Derived.Test.YtkbecgcbheopnaaGreatdUtd
namespace Go.Proofs.YtkbecgcbheopnaaGreat
open Go.RowKit Go.ChangeMaps
section
variable {P:Program} {ops:Array Oper} {Q:Exit→Act→World→Prop} {md:Region.Mode} {S:World→Prop} {ps:String} {af:Array Edge} {v:Value} {fuel:Nat} {listed:Array Bool} {a:Act} {w:World}
theorem tk4 (i:Nat) (d:Option Tmp) (o:Op) (t:TypeId) (gd:Option (Nat×Bool)) (h:wpAnyH P md ops Q S fuel (listed.setIfInBounds i true) (a.put d v) w)
  (hi:ops[i]?=some ⟨d,o,t,ps,af,gd⟩:=by rfl) (hs:Region.noSelect ops=true:=by as_aux_lemma=>kernel_rfl) (hf:Region.free md ops listed i=true:=by as_aux_lemma=>kernel_rfl) (hr:(Region.ready md ops listed).contains i=true:=by as_aux_lemma=>kernel_rfl)
  (hw:Region.wanted ⟨d,o,t,ps,af,gd⟩ (yielded ops a.tmps)=true:=by rfl) (hy:∀ w,S w→(execOp a.eval ⟨d,o,t,ps,af,gd⟩).run P w=.ok (.value v) w:=by (intro w hSw;(try dsimp only at hSw);go_simp;try with_reducible rfl)) (hS:S w:=by assumption)
  (hQ:∀ c a w,Q (.panic c) (a.put d v) w→Q (.panic c) a w:=by exact fun _ _ _ h=>h):wpAnyH P md ops Q S (fuel+1) listed a w :=
 wpAnyH_take hi hs hf hr hQ (Or.inl ⟨hw,hy⟩) hS h
theorem tk5 (i:Nat) (d:Option Tmp) (o:Op) (t:TypeId) (gd:Option (Nat×Bool)) (hy:∀ w,S w→(execOp a.eval ⟨d,o,t,ps,af,gd⟩).run P w=.ok (.value v) w) (h:wpAnyH P md ops Q S fuel (listed.setIfInBounds i true) (a.put d v) w)
  (hi:ops[i]?=some ⟨d,o,t,ps,af,gd⟩:=by rfl) (hs:Region.noSelect ops=true:=by as_aux_lemma=>kernel_rfl) (hf:Region.free md ops listed i=true:=by as_aux_lemma=>kernel_rfl) (hr:(Region.ready md ops listed).contains i=true:=by as_aux_lemma=>kernel_rfl)
  (hw:Region.wanted ⟨d,o,t,ps,af,gd⟩ (yielded ops a.tmps)=true:=by rfl) (hS:S w:=by assumption)
  (hQ:∀ c a w,Q (.panic c) (a.put d v) w→Q (.panic c) a w:=by exact fun _ _ _ h=>h):wpAnyH P md ops Q S (fuel+1) listed a w :=
 wpAnyH_take hi hs hf hr hQ (Or.inl ⟨hw,hy⟩) hS h
theorem ry2 (i:Nat) (d:Option Tmp) (o:Op) (t:TypeId) (gd:Option (Nat×Bool))
  (h:∀ K':Act→World→Prop,Shut (∀ a w,S w→(S w→wpAnyH P md ops Q S fuel (listed.setIfInBounds i true) a w)→K' a w)→if Region.wanted ⟨d,o,t,ps,af,gd⟩ (yielded ops a.tmps)=true then Oper.wp P ⟨d,o,t,ps,af,gd⟩ a w K' Q else K' (a.put d undef) w)
  (hr:Region.ready md ops listed=[i]:=by as_aux_lemma=>kernel_rfl) (hi:ops[i]?=some ⟨d,o,t,ps,af,gd⟩:=by rfl):wpAnyH P md ops Q S (fuel+1) listed a w:=wpAnyH_ready hr (by simp) (AllReadyH.cons hi h AllReadyH.nil)
end
section
variable {W W':World} {ba:Option Addr} {bn bc:Nat} {ga:Option Addr} {gn gc:Nat} {S:List X7} {G:List Int}
theorem storeOk_two (y tm:Int) (S:List X7) (G:List Int):∃ p:Bool,Hid (p=sOk y tm S G)∧Hid (∀ (W:World) (ba:Option Addr) (bn bc:Nat) (ga:Option Addr) (gn gc:Nat),Tz W ba bn bc ga gn gc S G→Calls Tryz.prog 9 #[.agg #[.int .i64 y,.int .i64 tm,.slice ba bn bc,.slice ga gn gc]] W fun e w'=>e=.returned (.bool p)∧Below W.heap.size W w')∧Hid (∀ (W:World) (ba:Option Addr) (bn bc:Nat) (ga:Option Addr) (gn gc:Nat),Tz W ba bn bc ga gn gc S G→Calls Tryz.prog 33 #[.agg #[.int .i64 y,.int .i64 tm,.slice ba bn bc,.slice ga gn gc]] W fun e w'=>e=.returned (.bool p)∧Below W.heap.size W w'):=by
 refine ⟨_,rfl,fun W ba bn bc ga gn gc h=>?_,fun W ba bn bc ga gn gc h=>?_⟩
 ·obtain ⟨lo,hi,h⟩:=h
  exact implStoreOk_any lo hi lo hi y tm ba bn bc ga gn gc S G W h.len h.most h.sb h.boxes h.glen h.gmost h.gone
 ·obtain ⟨lo,hi,h⟩:=h
  exact specStoreOk_any lo hi lo hi y tm ba bn bc ga gn gc S G W h.len h.most h.sb h.boxes h.glen h.gmost h.gone
theorem nextStamp_is (y tm u:Int) (bv gv:Value) (w:World) (ht:-1≤tm∧tm≤100001) (hu:tm+1=u):Calls Tryz.prog 34 #[.agg #[.int .i64 y,.int .i64 tm,bv,gv]] w fun e w'=>e=.returned (.agg #[.int .i64 u,.int .i64 y])∧Below w.heap.size w w':=by
 subst hu
 exact implNextStamp_any y tm bv gv w ⟨by omega,by omega⟩
end
theorem fld (u y:Int):∀ w:World,Sem.run Tryz.prog (Instr.field 34 (.agg #[.int .i64 u,.int .i64 y]) 0) w=.ok (.int .i64 u) w:=fun _=>by kernel_rfl
set_option maxHeartbeats 64000000 in
set_option maxRecDepth 100000 in
theorem lawStoresTold_any (ao:Option Addr) (n cap:Nat) (w:World) (hcode:Code w w.heap.size ao n) :
  Calls Tryz.prog 4 #[.slice ao n cap] w fun e w'=>e=.returned (.bool true)∧Below w.heap.size w w':=by
 have HO:=hid hcode
 have BE:=hid (bre w)
 clear hcode
 by_cases hbig:¬ n≤1048576
 ·go_enter Tryz.func4,Tryz.ntmps4
  go_wp2_with fail
  refine (bigF_yes ao n cap _ hbig).mono ?_;rintro e w' ⟨rfl,h'⟩
  rw [h']
  clear h'
  go_wp2
  go_ret
  exact ⟨rfl,bre _⟩
 ·have hbig:=Classical.not_not.1 hbig
  go_enter Tryz.func4,Tryz.ntmps4
  go_wp2_with fail
  refine (bigF_no ao n cap _ hbig).mono ?_;rintro e w' ⟨rfl,h'⟩
  rw [h']
  clear h'
  go_wp2_with fail
  refine (drawMakeBox_any ao n cap _ hbig HO.out).mono ?_;rintro e w1 ⟨y1,t1,ba1,bn1,bc1,ga1,gn1,gc1,S1,G1,x1,nm1,rfl,htx,_,ht,hb⟩
  have HX1:=hid htx
  clear htx
  obtain ⟨k1,hk1⟩:∃ k1,w1.heap.size=k1:=⟨_,rfl⟩
  obtain ⟨W1,hW1⟩:∃ W1,(w1.alloc (.cells #[.int .i64 y1,.int .i64 t1,.slice ba1 bn1 bc1,.slice ga1 gn1 gc1] 27))=W1:=⟨_,rfl⟩
  have HB1:Below w.heap.size w W1:=by rw [← hW1];exact bpush (hb) _
  replace BE:=hid (btr BE.out HB1)
  clear HB1
  have X1:Hid (Sx W1 k1 27 y1 t1 (.slice ba1 bn1 bc1) (.slice ga1 gn1 gc1)):=by rw [← hW1,← hk1];exact Sx.new _ _ _ _ _ _
  have Z1:Hid (Tz W1 ba1 bn1 bc1 ga1 gn1 gc1 S1 G1):=by rw [← hW1];exact ht.later (bpush (bre _) _)
  clear ht hb
  go_wp2_with fail
  try rw [hk1]
  try rw [hW1]
  clear hk1 hW1
  refine (drawRenameBox_any ao n cap _ hbig (HO.out.over BE.out)).mono ?_;rintro e w2 ⟨y2,t2,ba2,bn2,bc2,ga2,gn2,gc2,S2,G2,x2,nm2,rfl,htx,_,ht,hb⟩
  have HX2:=hid htx
  clear htx
  obtain ⟨k2,hk2⟩:∃ k2,w2.heap.size=k2:=⟨_,rfl⟩
  obtain ⟨W2,hW2⟩:∃ W2,(w2.alloc (.cells #[.int .i64 y2,.int .i64 t2,.slice ba2 bn2 bc2,.slice ga2 gn2 gc2] 27))=W2:=⟨_,rfl⟩
  have HB2:Below W1.heap.size W1 W2:=by rw [← hW2];exact bpush (hb) _
  replace X1:=hid (X1.out.later HB2)
  replace Z1:=hid (Z1.out.later HB2)
  replace BE:=hid (btr BE.out HB2)
  clear HB2
  have X2:Hid (Sx W2 k2 27 y2 t2 (.slice ba2 bn2 bc2) (.slice ga2 gn2 gc2)):=by rw [← hW2,← hk2];exact Sx.new _ _ _ _ _ _
  have Z2:Hid (Tz W2 ba2 bn2 bc2 ga2 gn2 gc2 S2 G2):=by rw [← hW2];exact ht.later (bpush (bre _) _)
  clear ht hb
  go_wp2_with fail
  try rw [hk2]
  try rw [hW2]
  clear hk2 hW2
  refine (drawDropBox_any ao n cap _ hbig (HO.out.over BE.out)).mono ?_;rintro e w3 ⟨y3,t3,ba3,bn3,bc3,ga3,gn3,gc3,S3,G3,x3,rfl,_,ht,hb⟩
  obtain ⟨k3,hk3⟩:∃ k3,w3.heap.size=k3:=⟨_,rfl⟩
  obtain ⟨W3,hW3⟩:∃ W3,(w3.alloc (.cells #[.int .i64 y3,.int .i64 t3,.slice ba3 bn3 bc3,.slice ga3 gn3 gc3] 27))=W3:=⟨_,rfl⟩
  have HB3:Below W2.heap.size W2 W3:=by rw [← hW3];exact bpush (hb) _
  replace X1:=hid (X1.out.later HB3)
  replace Z1:=hid (Z1.out.later HB3)
  replace X2:=hid (X2.out.later HB3)
  replace Z2:=hid (Z2.out.later HB3)
  replace BE:=hid (btr BE.out HB3)
  clear HB3
  have X3:Hid (Sx W3 k3 27 y3 t3 (.slice ba3 bn3 bc3) (.slice ga3 gn3 gc3)):=by rw [← hW3,← hk3];exact Sx.new _ _ _ _ _ _
  have Z3:Hid (Tz W3 ba3 bn3 bc3 ga3 gn3 gc3 S3 G3):=by rw [← hW3];exact ht.later (bpush (bre _) _)
  clear ht hb
  go_wp2_with fail
  try rw [hk3]
  try rw [hW3]
  clear hk3 hW3
  refine (drawPutMail_any ao n cap _ hbig (HO.out.over BE.out)).mono ?_;rintro e w4 ⟨y4,t4,ba4,bn4,bc4,ga4,gn4,gc4,S4,G4,x4,z4,u4,nm4,rfl,htx,_,ht,hb⟩
  have HX4:=hid htx
  clear htx
  obtain ⟨k4,hk4⟩:∃ k4,w4.heap.size=k4:=⟨_,rfl⟩
  obtain ⟨W4,hW4⟩:∃ W4,(w4.alloc (.cells #[.int .i64 y4,.int .i64 t4,.slice ba4 bn4 bc4,.slice ga4 gn4 gc4] 27))=W4:=⟨_,rfl⟩
  have HB4:Below W3.heap.size W3 W4:=by rw [← hW4];exact bpush (hb) _
  replace X1:=hid (X1.out.later HB4)
  replace Z1:=hid (Z1.out.later HB4)
  replace X2:=hid (X2.out.later HB4)
  replace Z2:=hid (Z2.out.later HB4)
  replace X3:=hid (X3.out.later HB4)
  replace Z3:=hid (Z3.out.later HB4)
  replace BE:=hid (btr BE.out HB4)
  clear HB4
  have X4:Hid (Sx W4 k4 27 y4 t4 (.slice ba4 bn4 bc4) (.slice ga4 gn4 gc4)):=by rw [← hW4,← hk4];exact Sx.new _ _ _ _ _ _
  have Z4:Hid (Tz W4 ba4 bn4 bc4 ga4 gn4 gc4 S4 G4):=by rw [← hW4];exact ht.later (bpush (bre _) _)
  clear ht hb
  go_wp2_with fail
  try rw [hk4]
  try rw [hW4]
  clear hk4 hW4
  refine (drawMarkMail_any ao n cap _ hbig (HO.out.over BE.out)).mono ?_;rintro e w5 ⟨y5,t5,ba5,bn5,bc5,ga5,gn5,gc5,S5,G5,x5,z5,u5,rfl,_,ht,hb⟩
  obtain ⟨k5,hk5⟩:∃ k5,w5.heap.size=k5:=⟨_,rfl⟩
  obtain ⟨W5,hW5⟩:∃ W5,(w5.alloc (.cells #[.int .i64 y5,.int .i64 t5,.slice ba5 bn5 bc5,.slice ga5 gn5 gc5] 27))=W5:=⟨_,rfl⟩
  have HB5:Below W4.heap.size W4 W5:=by rw [← hW5];exact bpush (hb) _
  replace X1:=hid (X1.out.later HB5)
  replace Z1:=hid (Z1.out.later HB5)
  replace X2:=hid (X2.out.later HB5)
  replace Z2:=hid (Z2.out.later HB5)
  replace X3:=hid (X3.out.later HB5)
  replace Z3:=hid (Z3.out.later HB5)
  replace X4:=hid (X4.out.later HB5)
  replace Z4:=hid (Z4.out.later HB5)
  replace BE:=hid (btr BE.out HB5)
  clear HB5
  have X5:Hid (Sx W5 k5 27 y5 t5 (.slice ba5 bn5 bc5) (.slice ga5 gn5 gc5)):=by rw [← hW5,← hk5];exact Sx.new _ _ _ _ _ _
  have Z5:Hid (Tz W5 ba5 bn5 bc5 ga5 gn5 gc5 S5 G5):=by rw [← hW5];exact ht.later (bpush (bre _) _)
  clear ht hb
  go_wp2_with fail
  try rw [hk5]
  try rw [hW5]
  clear hk5 hW5
  refine (drawDropMail_any ao n cap _ hbig (HO.out.over BE.out)).mono ?_;rintro e w6 ⟨y6,t6,ba6,bn6,bc6,ga6,gn6,gc6,S6,G6,x6,z6,rfl,_,ht,hb⟩
  obtain ⟨k6,hk6⟩:∃ k6,w6.heap.size=k6:=⟨_,rfl⟩
  obtain ⟨W6,hW6⟩:∃ W6,(w6.alloc (.cells #[.int .i64 y6,.int .i64 t6,.slice ba6 bn6 bc6,.slice ga6 gn6 gc6] 27))=W6:=⟨_,rfl⟩
  have HB6:Below W5.heap.size W5 W6:=by rw [← hW6];exact bpush (hb) _
  replace X1:=hid (X1.out.later HB6)
  replace Z1:=hid (Z1.out.later HB6)
  replace X2:=hid (X2.out.later HB6)
  replace Z2:=hid (Z2.out.later HB6)
  replace X3:=hid (X3.out.later HB6)
  replace Z3:=hid (Z3.out.later HB6)
  replace X4:=hid (X4.out.later HB6)
  replace Z4:=hid (Z4.out.later HB6)
  replace X5:=hid (X5.out.later HB6)
  replace Z5:=hid (Z5.out.later HB6)
  replace BE:=hid (btr BE.out HB6)
  clear HB6
  have X6:Hid (Sx W6 k6 27 y6 t6 (.slice ba6 bn6 bc6) (.slice ga6 gn6 gc6)):=by rw [← hW6,← hk6];exact Sx.new _ _ _ _ _ _
  have Z6:Hid (Tz W6 ba6 bn6 bc6 ga6 gn6 gc6 S6 G6):=by rw [← hW6];exact ht.later (bpush (bre _) _)
  clear ht hb
  have q0:=X1.out.cells
  go_wp2_with fail
  try rw [hk6]
  try rw [hW6]
  clear hk6 hW6
  clear q0
  obtain ⟨p1,q1,K1,H1,N1,M1,hE,hZ,cs,ci⟩:=make_two (y:=y1) (tm:=t1) x1 nm1 Z1.out.len Z1.out.most Z1.out.sb Z1.out.glen Z1.out.gmost HX1.out
  clear hE hZ
  refine (Z1.out.use (fun lo hi h=>ci.out lo hi ba1 bc1 ga1 gc1 _ h)).mono ?_;rintro e w7 ⟨ia1,ic1,id1,ie1,rfl,ht,hb⟩
  obtain ⟨ki1,hki1⟩:∃ ki1,w7.heap.size=ki1:=⟨_,rfl⟩
  obtain ⟨W7,hW7⟩:∃ W7,(w7.alloc (.cells #[.int .i64 y1,.int .i64 q1,.slice ia1 N1 ic1,.slice id1 M1 ie1] 27))=W7:=⟨_,rfl⟩
  have HB7:Below W6.heap.size W6 W7:=by rw [← hW7];exact bpush (hb) _
  replace X1:=hid (X1.out.later HB7)
  replace Z1:=hid (Z1.out.later HB7)
  replace X2:=hid (X2.out.later HB7)
  replace Z2:=hid (Z2.out.later HB7)
  replace X3:=hid (X3.out.later HB7)
  replace Z3:=hid (Z3.out.later HB7)
  replace X4:=hid (X4.out.later HB7)
  replace Z4:=hid (Z4.out.later HB7)
  replace X5:=hid (X5.out.later HB7)
  replace Z5:=hid (Z5.out.later HB7)
  replace X6:=hid (X6.out.later HB7)
  replace Z6:=hid (Z6.out.later HB7)
  replace BE:=hid (btr BE.out HB7)
  clear HB7
  have Xi1:Hid (Sx W7 ki1 27 y1 q1 (.slice ia1 N1 ic1) (.slice id1 M1 ie1)):=by rw [← hW7,← hki1];exact Sx.new _ _ _ _ _ _
  have Zi1:Hid (Tz W7 ia1 N1 ic1 id1 M1 ie1 K1 H1):=by rw [← hW7];exact ht.tz.later (bpush (bre _) _)
  clear ht hb ci
  have q0:=X1.out.cells
  go_wp2_with fail
  try rw [hki1]
  try rw [hW7]
  clear hki1 hW7
  clear q0
  refine (Z1.out.use (fun lo hi h=>cs.out lo hi ba1 bc1 ga1 gc1 _ h)).mono ?_;rintro e w8 ⟨sa1,sc1,sd1,se1,rfl,ht,hb⟩
  obtain ⟨ks1,hks1⟩:∃ ks1,w8.heap.size=ks1:=⟨_,rfl⟩
  obtain ⟨W8,hW8⟩:∃ W8,(w8.alloc (.cells #[.int .i64 y1,.int .i64 q1,.slice sa1 N1 sc1,.slice sd1 M1 se1] 27))=W8:=⟨_,rfl⟩
  have HB8:Below W7.heap.size W7 W8:=by rw [← hW8];exact bpush (hb) _
  replace X1:=hid (X1.out.later HB8)
  replace Z1:=hid (Z1.out.later HB8)
  replace X2:=hid (X2.out.later HB8)
  replace Z2:=hid (Z2.out.later HB8)
  replace X3:=hid (X3.out.later HB8)
  replace Z3:=hid (Z3.out.later HB8)
  replace X4:=hid (X4.out.later HB8)
  replace Z4:=hid (Z4.out.later HB8)
  replace X5:=hid (X5.out.later HB8)
  replace Z5:=hid (Z5.out.later HB8)
  replace X6:=hid (X6.out.later HB8)
  replace Z6:=hid (Z6.out.later HB8)
  replace Xi1:=hid (Xi1.out.later HB8)
  replace Zi1:=hid (Zi1.out.later HB8)
  replace BE:=hid (btr BE.out HB8)
  clear HB8
  have Xs1:Hid (Sx W8 ks1 27 y1 q1 (.slice sa1 N1 sc1) (.slice sd1 M1 se1)):=by rw [← hW8,← hks1];exact Sx.new _ _ _ _ _ _
  have Zs1:Hid (Tz W8 sa1 N1 sc1 sd1 M1 se1 K1 H1):=by rw [← hW8];exact ht.tz.later (bpush (bre _) _)
  clear ht hb cs
  clear X1 Z1
  have q0:=X2.out.cells
  go_wp2_with fail
  try rw [hks1]
  try rw [hW8]
  clear hks1 hW8
  clear q0
  obtain ⟨p2,q2,K2,H2,N2,M2,hE,hZ,cs,ci⟩:=ren_two (y:=y2) (tm:=t2) x2 nm2 Z2.out.len Z2.out.most Z2.out.sb Z2.out.glen Z2.out.gmost HX2.out
  clear hE hZ
  refine (Z2.out.use (fun lo hi h=>ci.out lo hi ba2 bc2 ga2 gc2 _ h)).mono ?_;rintro e w9 ⟨ia2,ic2,id2,ie2,rfl,ht,hb⟩
  obtain ⟨ki2,hki2⟩:∃ ki2,w9.heap.size=ki2:=⟨_,rfl⟩
  obtain ⟨W9,hW9⟩:∃ W9,(w9.alloc (.cells #[.int .i64 y2,.int .i64 q2,.slice ia2 N2 ic2,.slice id2 M2 ie2] 27))=W9:=⟨_,rfl⟩
  have HB9:Below W8.heap.size W8 W9:=by rw [← hW9];exact bpush (hb) _
  replace X2:=hid (X2.out.later HB9)
  replace Z2:=hid (Z2.out.later HB9)
  replace X3:=hid (X3.out.later HB9)
  replace Z3:=hid (Z3.out.later HB9)
  replace X4:=hid (X4.out.later HB9)
  replace Z4:=hid (Z4.out.later HB9)
  replace X5:=hid (X5.out.later HB9)
  replace Z5:=hid (Z5.out.later HB9)
  replace X6:=hid (X6.out.later HB9)
  replace Z6:=hid (Z6.out.later HB9)
  replace Xi1:=hid (Xi1.out.later HB9)
  replace Zi1:=hid (Zi1.out.later HB9)
  replace Xs1:=hid (Xs1.out.later HB9)
  replace Zs1:=hid (Zs1.out.later HB9)
  replace BE:=hid (btr BE.out HB9)
  clear HB9
  have Xi2:Hid (Sx W9 ki2 27 y2 q2 (.slice ia2 N2 ic2) (.slice id2 M2 ie2)):=by rw [← hW9,← hki2];exact Sx.new _ _ _ _ _ _
  have Zi2:Hid (Tz W9 ia2 N2 ic2 id2 M2 ie2 K2 H2):=by rw [← hW9];exact ht.tz.later (bpush (bre _) _)
  clear ht hb ci
  have q0:=X2.out.cells
  go_wp2_with fail
  try rw [hki2]
  try rw [hW9]
  clear hki2 hW9
  clear q0
  refine (Z2.out.use (fun lo hi h=>cs.out lo hi ba2 bc2 ga2 gc2 _ h)).mono ?_;rintro e w10 ⟨sa2,sc2,sd2,se2,rfl,ht,hb⟩
  obtain ⟨ks2,hks2⟩:∃ ks2,w10.heap.size=ks2:=⟨_,rfl⟩
  obtain ⟨W10,hW10⟩:∃ W10,(w10.alloc (.cells #[.int .i64 y2,.int .i64 q2,.slice sa2 N2 sc2,.slice sd2 M2 se2] 27))=W10:=⟨_,rfl⟩
  have HB10:Below W9.heap.size W9 W10:=by rw [← hW10];exact bpush (hb) _
  replace X2:=hid (X2.out.later HB10)
  replace Z2:=hid (Z2.out.later HB10)
  replace X3:=hid (X3.out.later HB10)
  replace Z3:=hid (Z3.out.later HB10)
  replace X4:=hid (X4.out.later HB10)
  replace Z4:=hid (Z4.out.later HB10)
  replace X5:=hid (X5.out.later HB10)
  replace Z5:=hid (Z5.out.later HB10)
  replace X6:=hid (X6.out.later HB10)
  replace Z6:=hid (Z6.out.later HB10)
  replace Xi1:=hid (Xi1.out.later HB10)
  replace Zi1:=hid (Zi1.out.later HB10)
  replace Xs1:=hid (Xs1.out.later HB10)
  replace Zs1:=hid (Zs1.out.later HB10)
  replace Xi2:=hid (Xi2.out.later HB10)
  replace Zi2:=hid (Zi2.out.later HB10)
  replace BE:=hid (btr BE.out HB10)
  clear HB10
  have Xs2:Hid (Sx W10 ks2 27 y2 q2 (.slice sa2 N2 sc2) (.slice sd2 M2 se2)):=by rw [← hW10,← hks2];exact Sx.new _ _ _ _ _ _
  have Zs2:Hid (Tz W10 sa2 N2 sc2 sd2 M2 se2 K2 H2):=by rw [← hW10];exact ht.tz.later (bpush (bre _) _)
  clear ht hb cs
  clear X2 Z2
  have q0:=X3.out.cells
  go_wp2_with fail
  try rw [hks2]
  try rw [hW10]
  clear hks2 hW10
  clear q0
  obtain ⟨p3,q3,K3,H3,N3,M3,hE,hZ,cs,ci⟩:=dropB_two (y:=y3) (tm:=t3) x3 Z3.out.len Z3.out.most Z3.out.sb Z3.out.glen Z3.out.gmost
  clear hE hZ
  refine (Z3.out.use (fun lo hi h=>ci.out lo hi ba3 bc3 ga3 gc3 _ h)).mono ?_;rintro e w11 ⟨ia3,ic3,id3,ie3,rfl,ht,hb⟩
  obtain ⟨ki3,hki3⟩:∃ ki3,w11.heap.size=ki3:=⟨_,rfl⟩
  obtain ⟨W11,hW11⟩:∃ W11,(w11.alloc (.cells #[.int .i64 y3,.int .i64 q3,.slice ia3 N3 ic3,.slice id3 M3 ie3] 27))=W11:=⟨_,rfl⟩
  have HB11:Below W10.heap.size W10 W11:=by rw [← hW11];exact bpush (hb) _
  replace X3:=hid (X3.out.later HB11)
  replace Z3:=hid (Z3.out.later HB11)
  replace X4:=hid (X4.out.later HB11)
  replace Z4:=hid (Z4.out.later HB11)
  replace X5:=hid (X5.out.later HB11)
  replace Z5:=hid (Z5.out.later HB11)
  replace X6:=hid (X6.out.later HB11)
  replace Z6:=hid (Z6.out.later HB11)
  replace Xi1:=hid (Xi1.out.later HB11)
  replace Zi1:=hid (Zi1.out.later HB11)
  replace Xs1:=hid (Xs1.out.later HB11)
  replace Zs1:=hid (Zs1.out.later HB11)
  replace Xi2:=hid (Xi2.out.later HB11)
  replace Zi2:=hid (Zi2.out.later HB11)
  replace Xs2:=hid (Xs2.out.later HB11)
  replace Zs2:=hid (Zs2.out.later HB11)
  replace BE:=hid (btr BE.out HB11)
  clear HB11
  have Xi3:Hid (Sx W11 ki3 27 y3 q3 (.slice ia3 N3 ic3) (.slice id3 M3 ie3)):=by rw [← hW11,← hki3];exact Sx.new _ _ _ _ _ _
  have Zi3:Hid (Tz W11 ia3 N3 ic3 id3 M3 ie3 K3 H3):=by rw [← hW11];exact ht.tz.later (bpush (bre _) _)
  clear ht hb ci
  have q0:=X3.out.cells
  go_wp2_with fail
  try rw [hki3]
  try rw [hW11]
  clear hki3 hW11
  clear q0
  refine (Z3.out.use (fun lo hi h=>cs.out lo hi ba3 bc3 ga3 gc3 _ h)).mono ?_;rintro e w12 ⟨sa3,sc3,sd3,se3,rfl,ht,hb⟩
  obtain ⟨ks3,hks3⟩:∃ ks3,w12.heap.size=ks3:=⟨_,rfl⟩
  obtain ⟨W12,hW12⟩:∃ W12,(w12.alloc (.cells #[.int .i64 y3,.int .i64 q3,.slice sa3 N3 sc3,.slice sd3 M3 se3] 27))=W12:=⟨_,rfl⟩
  have HB12:Below W11.heap.size W11 W12:=by rw [← hW12];exact bpush (hb) _
  replace X3:=hid (X3.out.later HB12)
  replace Z3:=hid (Z3.out.later HB12)
  replace X4:=hid (X4.out.later HB12)
  replace Z4:=hid (Z4.out.later HB12)
  replace X5:=hid (X5.out.later HB12)
  replace Z5:=hid (Z5.out.later HB12)
  replace X6:=hid (X6.out.later HB12)
  replace Z6:=hid (Z6.out.later HB12)
  replace Xi1:=hid (Xi1.out.later HB12)
  replace Zi1:=hid (Zi1.out.later HB12)
  replace Xs1:=hid (Xs1.out.later HB12)
  replace Zs1:=hid (Zs1.out.later HB12)
  replace Xi2:=hid (Xi2.out.later HB12)
  replace Zi2:=hid (Zi2.out.later HB12)
  replace Xs2:=hid (Xs2.out.later HB12)
  replace Zs2:=hid (Zs2.out.later HB12)
  replace Xi3:=hid (Xi3.out.later HB12)
  replace Zi3:=hid (Zi3.out.later HB12)
  replace BE:=hid (btr BE.out HB12)
  clear HB12
  have Xs3:Hid (Sx W12 ks3 27 y3 q3 (.slice sa3 N3 sc3) (.slice sd3 M3 se3)):=by rw [← hW12,← hks3];exact Sx.new _ _ _ _ _ _
  have Zs3:Hid (Tz W12 sa3 N3 sc3 sd3 M3 se3 K3 H3):=by rw [← hW12];exact ht.tz.later (bpush (bre _) _)
  clear ht hb cs
  clear X3 Z3
  have q0:=X4.out.cells
  go_wp2_with fail
  try rw [hks3]
  try rw [hW12]
  clear hks3 hW12
  clear q0
  obtain ⟨p4,q4,K4,H4,N4,M4,hE,hZ,cs,ci⟩:=put_two (y:=y4) (tm:=t4) x4 z4 u4 nm4 Z4.out.len Z4.out.most Z4.out.sb Z4.out.glen Z4.out.gmost HX4.out
  clear hE hZ
  refine (Z4.out.use (fun lo hi h=>ci.out lo hi ba4 bc4 ga4 gc4 _ h)).mono ?_;rintro e w13 ⟨ia4,ic4,id4,ie4,rfl,ht,hb⟩
  obtain ⟨ki4,hki4⟩:∃ ki4,w13.heap.size=ki4:=⟨_,rfl⟩
  obtain ⟨W13,hW13⟩:∃ W13,(w13.alloc (.cells #[.int .i64 y4,.int .i64 q4,.slice ia4 N4 ic4,.slice id4 M4 ie4] 27))=W13:=⟨_,rfl⟩
  have HB13:Below W12.heap.size W12 W13:=by rw [← hW13];exact bpush (hb) _
  replace X4:=hid (X4.out.later HB13)
  replace Z4:=hid (Z4.out.later HB13)
  replace X5:=hid (X5.out.later HB13)
  replace Z5:=hid (Z5.out.later HB13)
  replace X6:=hid (X6.out.later HB13)
  replace Z6:=hid (Z6.out.later HB13)
  replace Xi1:=hid (Xi1.out.later HB13)
  replace Zi1:=hid (Zi1.out.later HB13)
  replace Xs1:=hid (Xs1.out.later HB13)
  replace Zs1:=hid (Zs1.out.later HB13)
  replace Xi2:=hid (Xi2.out.later HB13)
  replace Zi2:=hid (Zi2.out.later HB13)
  replace Xs2:=hid (Xs2.out.later HB13)
  replace Zs2:=hid (Zs2.out.later HB13)
  replace Xi3:=hid (Xi3.out.later HB13)
  replace Zi3:=hid (Zi3.out.later HB13)
  replace Xs3:=hid (Xs3.out.later HB13)
  replace Zs3:=hid (Zs3.out.later HB13)
  replace BE:=hid (btr BE.out HB13)
  clear HB13
  have Xi4:Hid (Sx W13 ki4 27 y4 q4 (.slice ia4 N4 ic4) (.slice id4 M4 ie4)):=by rw [← hW13,← hki4];exact Sx.new _ _ _ _ _ _
  have Zi4:Hid (Tz W13 ia4 N4 ic4 id4 M4 ie4 K4 H4):=by rw [← hW13];exact ht.tz.later (bpush (bre _) _)
  clear ht hb ci
  have q0:=X4.out.cells
  go_wp2_with fail
  try rw [hki4]
  try rw [hW13]
  clear hki4 hW13
  clear q0
  refine (Z4.out.use (fun lo hi h=>cs.out lo hi ba4 bc4 ga4 gc4 _ h)).mono ?_;rintro e w14 ⟨sa4,sc4,sd4,se4,rfl,ht,hb⟩
  obtain ⟨ks4,hks4⟩:∃ ks4,w14.heap.size=ks4:=⟨_,rfl⟩
  obtain ⟨W14,hW14⟩:∃ W14,(w14.alloc (.cells #[.int .i64 y4,.int .i64 q4,.slice sa4 N4 sc4,.slice sd4 M4 se4] 27))=W14:=⟨_,rfl⟩
  have HB14:Below W13.heap.size W13 W14:=by rw [← hW14];exact bpush (hb) _
  replace X4:=hid (X4.out.later HB14)
  replace Z4:=hid (Z4.out.later HB14)
  replace X5:=hid (X5.out.later HB14)
  replace Z5:=hid (Z5.out.later HB14)
  replace X6:=hid (X6.out.later HB14)
  replace Z6:=hid (Z6.out.later HB14)
  replace Xi1:=hid (Xi1.out.later HB14)
  replace Zi1:=hid (Zi1.out.later HB14)
  replace Xs1:=hid (Xs1.out.later HB14)
  replace Zs1:=hid (Zs1.out.later HB14)
  replace Xi2:=hid (Xi2.out.later HB14)
  replace Zi2:=hid (Zi2.out.later HB14)
  replace Xs2:=hid (Xs2.out.later HB14)
  replace Zs2:=hid (Zs2.out.later HB14)
  replace Xi3:=hid (Xi3.out.later HB14)
  replace Zi3:=hid (Zi3.out.later HB14)
  replace Xs3:=hid (Xs3.out.later HB14)
  replace Zs3:=hid (Zs3.out.later HB14)
  replace Xi4:=hid (Xi4.out.later HB14)
  replace Zi4:=hid (Zi4.out.later HB14)
  replace BE:=hid (btr BE.out HB14)
  clear HB14
  have Xs4:Hid (Sx W14 ks4 27 y4 q4 (.slice sa4 N4 sc4) (.slice sd4 M4 se4)):=by rw [← hW14,← hks4];exact Sx.new _ _ _ _ _ _
  have Zs4:Hid (Tz W14 sa4 N4 sc4 sd4 M4 se4 K4 H4):=by rw [← hW14];exact ht.tz.later (bpush (bre _) _)
  clear ht hb cs
  clear X4 Z4
  have q0:=X5.out.cells
  go_wp2_with fail
  try rw [hks4]
  try rw [hW14]
  clear hks4 hW14
  clear q0
  obtain ⟨p5,q5,K5,H5,N5,M5,hE,hZ,cs,ci⟩:=mark_two (y:=y5) (tm:=t5) x5 z5 u5 Z5.out.len Z5.out.most Z5.out.sb Z5.out.glen Z5.out.gmost
  clear hE hZ
  refine (Z5.out.use (fun lo hi h=>ci.out lo hi ba5 bc5 ga5 gc5 _ h)).mono ?_;rintro e w15 ⟨ia5,ic5,id5,ie5,rfl,ht,hb⟩
  obtain ⟨ki5,hki5⟩:∃ ki5,w15.heap.size=ki5:=⟨_,rfl⟩
  obtain ⟨W15,hW15⟩:∃ W15,(w15.alloc (.cells #[.int .i64 y5,.int .i64 q5,.slice ia5 N5 ic5,.slice id5 M5 ie5] 27))=W15:=⟨_,rfl⟩
  have HB15:Below W14.heap.size W14 W15:=by rw [← hW15];exact bpush (hb) _
  replace X5:=hid (X5.out.later HB15)
  replace Z5:=hid (Z5.out.later HB15)
  replace X6:=hid (X6.out.later HB15)
  replace Z6:=hid (Z6.out.later HB15)
  replace Xi1:=hid (Xi1.out.later HB15)
  replace Zi1:=hid (Zi1.out.later HB15)
  replace Xs1:=hid (Xs1.out.later HB15)
  replace Zs1:=hid (Zs1.out.later HB15)
  replace Xi2:=hid (Xi2.out.later HB15)
  replace Zi2:=hid (Zi2.out.later HB15)
  replace Xs2:=hid (Xs2.out.later HB15)
  replace Zs2:=hid (Zs2.out.later HB15)
  replace Xi3:=hid (Xi3.out.later HB15)
  replace Zi3:=hid (Zi3.out.later HB15)
  replace Xs3:=hid (Xs3.out.later HB15)
  replace Zs3:=hid (Zs3.out.later HB15)
  replace Xi4:=hid (Xi4.out.later HB15)
  replace Zi4:=hid (Zi4.out.later HB15)
  replace Xs4:=hid (Xs4.out.later HB15)
  replace Zs4:=hid (Zs4.out.later HB15)
  replace BE:=hid (btr BE.out HB15)
  clear HB15
  have Xi5:Hid (Sx W15 ki5 27 y5 q5 (.slice ia5 N5 ic5) (.slice id5 M5 ie5)):=by rw [← hW15,← hki5];exact Sx.new _ _ _ _ _ _
  have Zi5:Hid (Tz W15 ia5 N5 ic5 id5 M5 ie5 K5 H5):=by rw [← hW15];exact ht.tz.later (bpush (bre _) _)
  clear ht hb ci
  have q0:=X5.out.cells
  go_wp2_with fail
  try rw [hki5]
  try rw [hW15]
  clear hki5 hW15
  clear q0
  refine (Z5.out.use (fun lo hi h=>cs.out lo hi ba5 bc5 ga5 gc5 _ h)).mono ?_;rintro e w16 ⟨sa5,sc5,sd5,se5,rfl,ht,hb⟩
  obtain ⟨ks5,hks5⟩:∃ ks5,w16.heap.size=ks5:=⟨_,rfl⟩
  obtain ⟨W16,hW16⟩:∃ W16,(w16.alloc (.cells #[.int .i64 y5,.int .i64 q5,.slice sa5 N5 sc5,.slice sd5 M5 se5] 27))=W16:=⟨_,rfl⟩
  have HB16:Below W15.heap.size W15 W16:=by rw [← hW16];exact bpush (hb) _
  replace X5:=hid (X5.out.later HB16)
  replace Z5:=hid (Z5.out.later HB16)
  replace X6:=hid (X6.out.later HB16)
  replace Z6:=hid (Z6.out.later HB16)
  replace Xi1:=hid (Xi1.out.later HB16)
  replace Zi1:=hid (Zi1.out.later HB16)
  replace Xs1:=hid (Xs1.out.later HB16)
  replace Zs1:=hid (Zs1.out.later HB16)
  replace Xi2:=hid (Xi2.out.later HB16)
  replace Zi2:=hid (Zi2.out.later HB16)
  replace Xs2:=hid (Xs2.out.later HB16)
  replace Zs2:=hid (Zs2.out.later HB16)
  replace Xi3:=hid (Xi3.out.later HB16)
  replace Zi3:=hid (Zi3.out.later HB16)
  replace Xs3:=hid (Xs3.out.later HB16)
  replace Zs3:=hid (Zs3.out.later HB16)
  replace Xi4:=hid (Xi4.out.later HB16)
  replace Zi4:=hid (Zi4.out.later HB16)
  replace Xs4:=hid (Xs4.out.later HB16)
  replace Zs4:=hid (Zs4.out.later HB16)
  replace Xi5:=hid (Xi5.out.later HB16)
  replace Zi5:=hid (Zi5.out.later HB16)
  replace BE:=hid (btr BE.out HB16)
  clear HB16
  have Xs5:Hid (Sx W16 ks5 27 y5 q5 (.slice sa5 N5 sc5) (.slice sd5 M5 se5)):=by rw [← hW16,← hks5];exact Sx.new _ _ _ _ _ _
  have Zs5:Hid (Tz W16 sa5 N5 sc5 sd5 M5 se5 K5 H5):=by rw [← hW16];exact ht.tz.later (bpush (bre _) _)
  clear ht hb cs
  clear X5 Z5
  have q0:=X6.out.cells
  go_wp2_with fail
  try rw [hks5]
  try rw [hW16]
  clear hks5 hW16
  clear q0
  obtain ⟨p6,q6,K6,H6,N6,M6,hE,hZ,cs,ci⟩:=dropM_two (y:=y6) (tm:=t6) x6 z6 Z6.out.len Z6.out.most Z6.out.sb Z6.out.glen Z6.out.gmost
  clear hE hZ
  refine (Z6.out.use (fun lo hi h=>ci.out lo hi ba6 bc6 ga6 gc6 _ h)).mono ?_;rintro e w17 ⟨ia6,ic6,id6,ie6,rfl,ht,hb⟩
  obtain ⟨ki6,hki6⟩:∃ ki6,w17.heap.size=ki6:=⟨_,rfl⟩
  obtain ⟨W17,hW17⟩:∃ W17,(w17.alloc (.cells #[.int .i64 y6,.int .i64 q6,.slice ia6 N6 ic6,.slice id6 M6 ie6] 27))=W17:=⟨_,rfl⟩
  have HB17:Below W16.heap.size W16 W17:=by rw [← hW17];exact bpush (hb) _
  replace X6:=hid (X6.out.later HB17)
  replace Z6:=hid (Z6.out.later HB17)
  replace Xi1:=hid (Xi1.out.later HB17)
  replace Zi1:=hid (Zi1.out.later HB17)
  replace Xs1:=hid (Xs1.out.later HB17)
  replace Zs1:=hid (Zs1.out.later HB17)
  replace Xi2:=hid (Xi2.out.later HB17)
  replace Zi2:=hid (Zi2.out.later HB17)
  replace Xs2:=hid (Xs2.out.later HB17)
  replace Zs2:=hid (Zs2.out.later HB17)
  replace Xi3:=hid (Xi3.out.later HB17)
  replace Zi3:=hid (Zi3.out.later HB17)
  replace Xs3:=hid (Xs3.out.later HB17)
  replace Zs3:=hid (Zs3.out.later HB17)
  replace Xi4:=hid (Xi4.out.later HB17)
  replace Zi4:=hid (Zi4.out.later HB17)
  replace Xs4:=hid (Xs4.out.later HB17)
  replace Zs4:=hid (Zs4.out.later HB17)
  replace Xi5:=hid (Xi5.out.later HB17)
  replace Zi5:=hid (Zi5.out.later HB17)
  replace Xs5:=hid (Xs5.out.later HB17)
  replace Zs5:=hid (Zs5.out.later HB17)
  replace BE:=hid (btr BE.out HB17)
  clear HB17
  have Xi6:Hid (Sx W17 ki6 27 y6 q6 (.slice ia6 N6 ic6) (.slice id6 M6 ie6)):=by rw [← hW17,← hki6];exact Sx.new _ _ _ _ _ _
  have Zi6:Hid (Tz W17 ia6 N6 ic6 id6 M6 ie6 K6 H6):=by rw [← hW17];exact ht.tz.later (bpush (bre _) _)
  clear ht hb ci
  have q0:=X6.out.cells
  go_wp2_with fail
  try rw [hki6]
  try rw [hW17]
  clear hki6 hW17
  clear q0
  refine (Z6.out.use (fun lo hi h=>cs.out lo hi ba6 bc6 ga6 gc6 _ h)).mono ?_;rintro e w18 ⟨sa6,sc6,sd6,se6,rfl,ht,hb⟩
  obtain ⟨ks6,hks6⟩:∃ ks6,w18.heap.size=ks6:=⟨_,rfl⟩
  obtain ⟨W18,hW18⟩:∃ W18,(w18.alloc (.cells #[.int .i64 y6,.int .i64 q6,.slice sa6 N6 sc6,.slice sd6 M6 se6] 27))=W18:=⟨_,rfl⟩
  have HB18:Below W17.heap.size W17 W18:=by rw [← hW18];exact bpush (hb) _
  replace X6:=hid (X6.out.later HB18)
  replace Z6:=hid (Z6.out.later HB18)
  replace Xi1:=hid (Xi1.out.later HB18)
  replace Zi1:=hid (Zi1.out.later HB18)
  replace Xs1:=hid (Xs1.out.later HB18)
  replace Zs1:=hid (Zs1.out.later HB18)
  replace Xi2:=hid (Xi2.out.later HB18)
  replace Zi2:=hid (Zi2.out.later HB18)
  replace Xs2:=hid (Xs2.out.later HB18)
  replace Zs2:=hid (Zs2.out.later HB18)
  replace Xi3:=hid (Xi3.out.later HB18)
  replace Zi3:=hid (Zi3.out.later HB18)
  replace Xs3:=hid (Xs3.out.later HB18)
  replace Zs3:=hid (Zs3.out.later HB18)
  replace Xi4:=hid (Xi4.out.later HB18)
  replace Zi4:=hid (Zi4.out.later HB18)
  replace Xs4:=hid (Xs4.out.later HB18)
  replace Zs4:=hid (Zs4.out.later HB18)
  replace Xi5:=hid (Xi5.out.later HB18)
  replace Zi5:=hid (Zi5.out.later HB18)
  replace Xs5:=hid (Xs5.out.later HB18)
  replace Zs5:=hid (Zs5.out.later HB18)
  replace Xi6:=hid (Xi6.out.later HB18)
  replace Zi6:=hid (Zi6.out.later HB18)
  replace BE:=hid (btr BE.out HB18)
  clear HB18
  have Xs6:Hid (Sx W18 ks6 27 y6 q6 (.slice sa6 N6 sc6) (.slice sd6 M6 se6)):=by rw [← hW18,← hks6];exact Sx.new _ _ _ _ _ _
  have Zs6:Hid (Tz W18 sa6 N6 sc6 sd6 M6 se6 K6 H6):=by rw [← hW18];exact ht.tz.later (bpush (bre _) _)
  clear ht hb cs
  clear X6 Z6
  go_wp2_with fail
  try rw [hks6]
  try rw [hW18]
  clear hks6 hW18
  refine (drawStoreOk_any ao n cap _ hbig (HO.out.over BE.out)).mono ?_;rintro e w19 ⟨yv,tv,bav,bnv,bcv,gav,gnv,gcv,Sv,Gv,rfl,htm,ht,hb⟩
  have HTM:=hid htm
  obtain ⟨kv,hkv⟩:∃ kv,w19.heap.size=kv:=⟨_,rfl⟩
  obtain ⟨W19,hW19⟩:∃ W19,(w19.alloc (.cells #[.int .i64 yv,.int .i64 tv,.slice bav bnv bcv,.slice gav gnv gcv] 27))=W19:=⟨_,rfl⟩
  have HB19:Below W18.heap.size W18 W19:=by rw [← hW19];exact bpush (hb) _
  replace Xi1:=hid (Xi1.out.later HB19)
  replace Zi1:=hid (Zi1.out.later HB19)
  replace Xs1:=hid (Xs1.out.later HB19)
  replace Zs1:=hid (Zs1.out.later HB19)
  replace Xi2:=hid (Xi2.out.later HB19)
  replace Zi2:=hid (Zi2.out.later HB19)
  replace Xs2:=hid (Xs2.out.later HB19)
  replace Zs2:=hid (Zs2.out.later HB19)
  replace Xi3:=hid (Xi3.out.later HB19)
  replace Zi3:=hid (Zi3.out.later HB19)
  replace Xs3:=hid (Xs3.out.later HB19)
  replace Zs3:=hid (Zs3.out.later HB19)
  replace Xi4:=hid (Xi4.out.later HB19)
  replace Zi4:=hid (Zi4.out.later HB19)
  replace Xs4:=hid (Xs4.out.later HB19)
  replace Zs4:=hid (Zs4.out.later HB19)
  replace Xi5:=hid (Xi5.out.later HB19)
  replace Zi5:=hid (Zi5.out.later HB19)
  replace Xs5:=hid (Xs5.out.later HB19)
  replace Zs5:=hid (Zs5.out.later HB19)
  replace Xi6:=hid (Xi6.out.later HB19)
  replace Zi6:=hid (Zi6.out.later HB19)
  replace Xs6:=hid (Xs6.out.later HB19)
  replace Zs6:=hid (Zs6.out.later HB19)
  replace BE:=hid (btr BE.out HB19)
  clear HB19
  have Xv:Hid (Sx W19 kv 27 yv tv (.slice bav bnv bcv) (.slice gav gnv gcv)):=by rw [← hW19,← hkv];exact Sx.new _ _ _ _ _ _
  have Zv:Hid (Tz W19 bav bnv bcv gav gnv gcv Sv Gv):=by rw [← hW19];exact ht.later (bpush (bre _) _)
  clear ht hb htm
  go_wp2_with fail
  try rw [hkv]
  try rw [hW19]
  clear hkv hW19
  obtain ⟨ps,_,co,cp⟩:=storeOk_two yv tv Sv Gv
  obtain ⟨pn,hpn,cn,_⟩:=storeOk_two 2 0 [] []
  have epn:pn=true:=by rw [hpn.out];decide
  subst epn
  obtain ⟨u,hu⟩:∃ u,tv+1=u:=⟨_,rfl⟩
  have HU:=hid hu
  have hw:IntKind.i64.wrap (tv+1)=u:=by have h:=HTM.out;rw [IntKind.wrap_i64,← hu];omega
  clear hu hpn
  have hfl:=fld u yv
  try dsimp only [List.append]
  refine wp_region_noPanic ?_
  refine wp_region_held_drew (S:=(fun W=>Below W19.heap.size W19 W)) (by kernel_rfl) (bdr (bre _)) (fun hHeld=>?_)
  refine tk4 0 (some 178) (Op.move (Operand.tmp 24)) 4 (none) ?_
  try simp only [Act.put,tp2,tp3,tp4]
  refine tk4 1 (some 179) (Op.move (Operand.tmp 26)) 4 (none) ?_
  try simp only [Act.put,tp2,tp3,tp4]
  refine tk4 2 (some 180) (Op.binOp BinOp.eql 4 (Operand.tmp 178) (Operand.tmp 179) 4) 4 (none) ?_
  try simp only [Act.put,tp2,tp3,tp4]
  refine tk4 3 (some 181) (Op.move (Operand.tmp 180)) 4 (none) ?_
  try simp only [Act.put,tp2,tp3,tp4]
  refine tk5 4 (some 182) (Op.load 27 (Operand.tmp 23)) 27 (some (3,true)) (fun w hSw=>by have q:=(Xi1.out.later hSw).cells;clear hSw;go_simp;try with_reducible rfl) ?_
  try simp only [Act.put,tp2,tp3,tp4]
  refine tk5 5 (some 183) (Op.load 27 (Operand.tmp 25)) 27 (some (3,true)) (fun w hSw=>by have q:=(Xs1.out.later hSw).cells;clear hSw;go_simp;try with_reducible rfl) ?_
  try simp only [Act.put,tp2,tp3,tp4]
  clear hHeld
  refine ry2 6 (some 184) (Op.call { callee:=Callee.value (Operand.func 32),args:=#[Operand.tmp 182,Operand.tmp 183],argTypes:=#[27,27] }) 4 (some (3,true)) (fun K hK=>?_)
  go_simp
  refine (sameAll_any y1 q1 ia1 N1 ic1 id1 M1 ie1 sa1 sc1 sd1 se1 K1 H1 _ (Zi1.out.later (bdr (bre _))) (Zs1.out.later (bdr (bre _)))).mono ?_
  rintro e v6 ⟨rfl,hb⟩
  have HV:Hid (Below W19.heap.size W19 v6):=btr (bdr (bre _)) hb
  clear hb
  go_wp2_with fail
  refine hK.out _ _ (HV.out) (fun hHeld=>?_)
  clear hK K
  try simp only [Act.put,tp2,tp3,tp4]
  refine tk4 7 (some 185) (Op.pick (Operand.tmp 181) (Operand.tmp 184) (Operand.const (Value.bool false))) 4 (none) ?_
  try simp only [Act.put,tp2,tp3,tp4]
  refine tk4 8 (some 186) (Op.move (Operand.tmp 185)) 4 (none) ?_
  try simp only [Act.put,tp2,tp3,tp4]
  refine tk4 9 (some 187) (Op.move (Operand.tmp 28)) 4 (some (8,true)) ?_
  try simp only [Act.put,tp2,tp3,tp4]
  refine tk4 10 (some 188) (Op.move (Operand.tmp 30)) 4 (some (8,true)) ?_
  try simp only [Act.put,tp2,tp3,tp4]
  refine tk4 11 (some 189) (Op.binOp BinOp.eql 4 (Operand.tmp 187) (Operand.tmp 188) 4) 4 (some (8,true)) ?_
  try simp only [Act.put,tp2,tp3,tp4]
  refine tk4 12 (some 190) (Op.pick (Operand.tmp 186) (Operand.tmp 189) (Operand.const (Value.bool false))) 4 (none) ?_
  try simp only [Act.put,tp2,tp3,tp4]
  refine tk4 13 (some 191) (Op.move (Operand.tmp 190)) 4 (none) ?_
  try simp only [Act.put,tp2,tp3,tp4]
  refine tk5 14 (some 192) (Op.load 27 (Operand.tmp 27)) 27 (some (13,true)) (fun w hSw=>by have q:=(Xi2.out.later hSw).cells;clear hSw;go_simp;try with_reducible rfl) ?_
  try simp only [Act.put,tp2,tp3,tp4]
  refine tk5 15 (some 193) (Op.load 27 (Operand.tmp 29)) 27 (some (13,true)) (fun w hSw=>by have q:=(Xs2.out.later hSw).cells;clear hSw;go_simp;try with_reducible rfl) ?_
  try simp only [Act.put,tp2,tp3,tp4]
  clear hHeld
  refine ry2 16 (some 194) (Op.call { callee:=Callee.value (Operand.func 32),args:=#[Operand.tmp 192,Operand.tmp 193],argTypes:=#[27,27] }) 4 (some (13,true)) (fun K hK=>?_)
  go_simp
  refine (sameAll_any y2 q2 ia2 N2 ic2 id2 M2 ie2 sa2 sc2 sd2 se2 K2 H2 _ (Zi2.out.later HV.out) (Zs2.out.later HV.out)).mono ?_
  rintro e v16 ⟨rfl,hb⟩
  replace HV:=hid (btr HV.out hb)
  clear hb
  go_wp2_with fail
  refine hK.out _ _ (HV.out) (fun hHeld=>?_)
  clear hK K
  try simp only [Act.put,tp2,tp3,tp4]
  refine tk4 17 (some 195) (Op.pick (Operand.tmp 191) (Operand.tmp 194) (Operand.const (Value.bool false))) 4 (none) ?_
  try simp only [Act.put,tp2,tp3,tp4]
  refine tk4 18 (some 196) (Op.move (Operand.tmp 195)) 4 (none) ?_
  try simp only [Act.put,tp2,tp3,tp4]
  refine tk4 19 (some 197) (Op.move (Operand.tmp 32)) 4 (some (18,true)) ?_
  try simp only [Act.put,tp2,tp3,tp4]
  refine tk4 20 (some 198) (Op.move (Operand.tmp 34)) 4 (some (18,true)) ?_
  try simp only [Act.put,tp2,tp3,tp4]
  refine tk4 21 (some 199) (Op.binOp BinOp.eql 4 (Operand.tmp 197) (Operand.tmp 198) 4) 4 (some (18,true)) ?_
  try simp only [Act.put,tp2,tp3,tp4]
  refine tk4 22 (some 200) (Op.pick (Operand.tmp 196) (Operand.tmp 199) (Operand.const (Value.bool false))) 4 (none) ?_
  try simp only [Act.put,tp2,tp3,tp4]
  refine tk4 23 (some 201) (Op.move (Operand.tmp 200)) 4 (none) ?_
  try simp only [Act.put,tp2,tp3,tp4]
  refine tk5 24 (some 202) (Op.load 27 (Operand.tmp 31)) 27 (some (23,true)) (fun w hSw=>by have q:=(Xi3.out.later hSw).cells;clear hSw;go_simp;try with_reducible rfl) ?_
  try simp only [Act.put,tp2,tp3,tp4]
  refine tk5 25 (some 203) (Op.load 27 (Operand.tmp 33)) 27 (some (23,true)) (fun w hSw=>by have q:=(Xs3.out.later hSw).cells;clear hSw;go_simp;try with_reducible rfl) ?_
  try simp only [Act.put,tp2,tp3,tp4]
  clear hHeld
  refine ry2 26 (some 204) (Op.call { callee:=Callee.value (Operand.func 32),args:=#[Operand.tmp 202,Operand.tmp 203],argTypes:=#[27,27] }) 4 (some (23,true)) (fun K hK=>?_)
  go_simp
  refine (sameAll_any y3 q3 ia3 N3 ic3 id3 M3 ie3 sa3 sc3 sd3 se3 K3 H3 _ (Zi3.out.later HV.out) (Zs3.out.later HV.out)).mono ?_
  rintro e v26 ⟨rfl,hb⟩
  replace HV:=hid (btr HV.out hb)
  clear hb
  go_wp2_with fail
  refine hK.out _ _ (HV.out) (fun hHeld=>?_)
  clear hK K
  try simp only [Act.put,tp2,tp3,tp4]
  refine tk4 27 (some 205) (Op.pick (Operand.tmp 201) (Operand.tmp 204) (Operand.const (Value.bool false))) 4 (none) ?_
  try simp only [Act.put,tp2,tp3,tp4]
  refine tk4 28 (some 206) (Op.move (Operand.tmp 205)) 4 (none) ?_
  try simp only [Act.put,tp2,tp3,tp4]
  refine tk4 29 (some 207) (Op.move (Operand.tmp 36)) 4 (some (28,true)) ?_
  try simp only [Act.put,tp2,tp3,tp4]
  refine tk4 30 (some 208) (Op.move (Operand.tmp 38)) 4 (some (28,true)) ?_
  try simp only [Act.put,tp2,tp3,tp4]
  refine tk4 31 (some 209) (Op.binOp BinOp.eql 4 (Operand.tmp 207) (Operand.tmp 208) 4) 4 (some (28,true)) ?_
  try simp only [Act.put,tp2,tp3,tp4]
  refine tk4 32 (some 210) (Op.pick (Operand.tmp 206) (Operand.tmp 209) (Operand.const (Value.bool false))) 4 (none) ?_
  try simp only [Act.put,tp2,tp3,tp4]
  refine tk4 33 (some 211) (Op.move (Operand.tmp 210)) 4 (none) ?_
  try simp only [Act.put,tp2,tp3,tp4]
  refine tk5 34 (some 212) (Op.load 27 (Operand.tmp 35)) 27 (some (33,true)) (fun w hSw=>by have q:=(Xi4.out.later hSw).cells;clear hSw;go_simp;try with_reducible rfl) ?_
  try simp only [Act.put,tp2,tp3,tp4]
  refine tk5 35 (some 213) (Op.load 27 (Operand.tmp 37)) 27 (some (33,true)) (fun w hSw=>by have q:=(Xs4.out.later hSw).cells;clear hSw;go_simp;try with_reducible rfl) ?_
  try simp only [Act.put,tp2,tp3,tp4]
  clear hHeld
  refine ry2 36 (some 214) (Op.call { callee:=Callee.value (Operand.func 32),args:=#[Operand.tmp 212,Operand.tmp 213],argTypes:=#[27,27] }) 4 (some (33,true)) (fun K hK=>?_)
  go_simp
  refine (sameAll_any y4 q4 ia4 N4 ic4 id4 M4 ie4 sa4 sc4 sd4 se4 K4 H4 _ (Zi4.out.later HV.out) (Zs4.out.later HV.out)).mono ?_
  rintro e v36 ⟨rfl,hb⟩
  replace HV:=hid (btr HV.out hb)
  clear hb
  go_wp2_with fail
  refine hK.out _ _ (HV.out) (fun hHeld=>?_)
  clear hK K
  try simp only [Act.put,tp2,tp3,tp4]
  refine tk4 37 (some 215) (Op.pick (Operand.tmp 211) (Operand.tmp 214) (Operand.const (Value.bool false))) 4 (none) ?_
  try simp only [Act.put,tp2,tp3,tp4]
  refine tk4 38 (some 216) (Op.move (Operand.tmp 215)) 4 (none) ?_
  try simp only [Act.put,tp2,tp3,tp4]
  refine tk4 39 (some 217) (Op.move (Operand.tmp 40)) 4 (some (38,true)) ?_
  try simp only [Act.put,tp2,tp3,tp4]
  refine tk4 40 (some 218) (Op.move (Operand.tmp 42)) 4 (some (38,true)) ?_
  try simp only [Act.put,tp2,tp3,tp4]
  refine tk4 41 (some 219) (Op.binOp BinOp.eql 4 (Operand.tmp 217) (Operand.tmp 218) 4) 4 (some (38,true)) ?_
  try simp only [Act.put,tp2,tp3,tp4]
  refine tk4 42 (some 220) (Op.pick (Operand.tmp 216) (Operand.tmp 219) (Operand.const (Value.bool false))) 4 (none) ?_
  try simp only [Act.put,tp2,tp3,tp4]
  refine tk4 43 (some 221) (Op.move (Operand.tmp 220)) 4 (none) ?_
  try simp only [Act.put,tp2,tp3,tp4]
  refine tk5 44 (some 222) (Op.load 27 (Operand.tmp 39)) 27 (some (43,true)) (fun w hSw=>by have q:=(Xi5.out.later hSw).cells;clear hSw;go_simp;try with_reducible rfl) ?_
  try simp only [Act.put,tp2,tp3,tp4]
  refine tk5 45 (some 223) (Op.load 27 (Operand.tmp 41)) 27 (some (43,true)) (fun w hSw=>by have q:=(Xs5.out.later hSw).cells;clear hSw;go_simp;try with_reducible rfl) ?_
  try simp only [Act.put,tp2,tp3,tp4]
  clear hHeld
  refine ry2 46 (some 224) (Op.call { callee:=Callee.value (Operand.func 32),args:=#[Operand.tmp 222,Operand.tmp 223],argTypes:=#[27,27] }) 4 (some (43,true)) (fun K hK=>?_)
  go_simp
  refine (sameAll_any y5 q5 ia5 N5 ic5 id5 M5 ie5 sa5 sc5 sd5 se5 K5 H5 _ (Zi5.out.later HV.out) (Zs5.out.later HV.out)).mono ?_
  rintro e v46 ⟨rfl,hb⟩
  replace HV:=hid (btr HV.out hb)
  clear hb
  go_wp2_with fail
  refine hK.out _ _ (HV.out) (fun hHeld=>?_)
  clear hK K
  try simp only [Act.put,tp2,tp3,tp4]
  refine tk4 47 (some 225) (Op.pick (Operand.tmp 221) (Operand.tmp 224) (Operand.const (Value.bool false))) 4 (none) ?_
  try simp only [Act.put,tp2,tp3,tp4]
  refine tk4 48 (some 226) (Op.move (Operand.tmp 225)) 4 (none) ?_
  try simp only [Act.put,tp2,tp3,tp4]
  refine tk4 49 (some 227) (Op.move (Operand.tmp 44)) 4 (some (48,true)) ?_
  try simp only [Act.put,tp2,tp3,tp4]
  refine tk4 50 (some 228) (Op.move (Operand.tmp 46)) 4 (some (48,true)) ?_
  try simp only [Act.put,tp2,tp3,tp4]
  refine tk4 51 (some 229) (Op.binOp BinOp.eql 4 (Operand.tmp 227) (Operand.tmp 228) 4) 4 (some (48,true)) ?_
  try simp only [Act.put,tp2,tp3,tp4]
  refine tk4 52 (some 230) (Op.pick (Operand.tmp 226) (Operand.tmp 229) (Operand.const (Value.bool false))) 4 (none) ?_
  try simp only [Act.put,tp2,tp3,tp4]
  refine tk4 53 (some 231) (Op.move (Operand.tmp 230)) 4 (none) ?_
  try simp only [Act.put,tp2,tp3,tp4]
  refine tk5 54 (some 232) (Op.load 27 (Operand.tmp 43)) 27 (some (53,true)) (fun w hSw=>by have q:=(Xi6.out.later hSw).cells;clear hSw;go_simp;try with_reducible rfl) ?_
  try simp only [Act.put,tp2,tp3,tp4]
  refine tk5 55 (some 233) (Op.load 27 (Operand.tmp 45)) 27 (some (53,true)) (fun w hSw=>by have q:=(Xs6.out.later hSw).cells;clear hSw;go_simp;try with_reducible rfl) ?_
  try simp only [Act.put,tp2,tp3,tp4]
  clear hHeld
  refine ry2 56 (some 234) (Op.call { callee:=Callee.value (Operand.func 32),args:=#[Operand.tmp 232,Operand.tmp 233],argTypes:=#[27,27] }) 4 (some (53,true)) (fun K hK=>?_)
  go_simp
  refine (sameAll_any y6 q6 ia6 N6 ic6 id6 M6 ie6 sa6 sc6 sd6 se6 K6 H6 _ (Zi6.out.later HV.out) (Zs6.out.later HV.out)).mono ?_
  rintro e v56 ⟨rfl,hb⟩
  replace HV:=hid (btr HV.out hb)
  clear hb
  go_wp2_with fail
  refine hK.out _ _ (HV.out) (fun hHeld=>?_)
  clear hK K
  try simp only [Act.put,tp2,tp3,tp4]
  refine tk4 57 (some 235) (Op.pick (Operand.tmp 231) (Operand.tmp 234) (Operand.const (Value.bool false))) 4 (none) ?_
  try simp only [Act.put,tp2,tp3,tp4]
  refine tk4 58 (some 236) (Op.move (Operand.tmp 235)) 4 (none) ?_
  try simp only [Act.put,tp2,tp3,tp4]
  refine tk5 59 (some 237) (Op.load 27 (Operand.tmp 47)) 27 (some (58,true)) (fun w hSw=>by have q:=(Xv.out.later hSw).cells;clear hSw;go_simp;try with_reducible rfl) ?_
  try simp only [Act.put,tp2,tp3,tp4]
  refine tk5 61 (some 239) (Op.load 27 (Operand.tmp 47)) 27 (some (58,true)) (fun w hSw=>by have q:=(Xv.out.later hSw).cells;clear hSw;go_simp;try with_reducible rfl) ?_
  try simp only [Act.put,tp2,tp3,tp4]
  clear hHeld
  refine ry2 60 (some 238) (Op.call { callee:=Callee.value (Operand.func 9),args:=#[Operand.tmp 237],argTypes:=#[27] }) 4 (some (58,true)) (fun K hK=>?_)
  go_simp
  refine (co.out _ bav bnv bcv gav gnv gcv (Zv.out.later HV.out)).mono ?_
  rintro e v60 ⟨rfl,hb⟩
  replace HV:=hid (btr HV.out hb)
  clear hb
  go_wp2_with fail
  refine hK.out _ _ (HV.out) (fun hHeld=>?_)
  clear hK K
  try simp only [Act.put,tp2,tp3,tp4]
  clear hHeld
  refine ry2 62 (some 240) (Op.call { callee:=Callee.value (Operand.func 33),args:=#[Operand.tmp 239],argTypes:=#[27] }) 4 (some (58,true)) (fun K hK=>?_)
  go_simp
  refine (cp.out _ bav bnv bcv gav gnv gcv (Zv.out.later HV.out)).mono ?_
  rintro e v62 ⟨rfl,hb⟩
  replace HV:=hid (btr HV.out hb)
  clear hb
  go_wp2_with fail
  refine hK.out _ _ (HV.out) (fun hHeld=>?_)
  clear hK K
  try simp only [Act.put,tp2,tp3,tp4]
  refine tk4 63 (some 241) (Op.binOp BinOp.eql 4 (Operand.tmp 238) (Operand.tmp 240) 4) 4 (some (58,true)) ?_
  try simp only [Act.put,tp2,tp3,tp4]
  refine tk4 64 (some 242) (Op.pick (Operand.tmp 236) (Operand.tmp 241) (Operand.const (Value.bool false))) 4 (none) ?_
  try simp only [Act.put,tp2,tp3,tp4]
  refine tk4 65 (some 243) (Op.move (Operand.tmp 242)) 4 (none) ?_
  try simp only [Act.put,tp2,tp3,tp4]
  refine tk5 66 (some 244) (Op.load 27 (Operand.tmp 47)) 27 (some (65,true)) (fun w hSw=>by have q:=(Xv.out.later hSw).cells;clear hSw;go_simp;try with_reducible rfl) ?_
  try simp only [Act.put,tp2,tp3,tp4]
  refine tk4 69 (some 247) (Op.fieldAddr 27 (Operand.tmp 47) 1) 0 (some (65,true)) ?_
  try simp only [Act.put,tp2,tp3,tp4]
  refine tk5 70 (some 248) (Op.load 3 (Operand.tmp 247)) 3 (some (65,true)) (fun w hSw=>by have q:=(Xv.out.later hSw).cells;clear hSw;go_simp;try with_reducible rfl) ?_
  try simp only [Act.put,tp2,tp3,tp4]
  refine tk4 71 (some 249) (Op.binOp BinOp.add 3 (Operand.tmp 248) (Operand.const (Value.int IntKind.i64 1)) 3) 3 (some (65,true)) ?_
  try simp only [Act.put,tp2,tp3,tp4]
  clear hHeld
  refine ry2 67 (some 245) (Op.call { callee:=Callee.value (Operand.func 34),args:=#[Operand.tmp 244],argTypes:=#[27] }) 34 (some (65,true)) (fun K hK=>?_)
  go_simp
  refine (nextStamp_is yv tv u _ _ _ HTM.out HU.out).mono ?_
  rintro e v67 ⟨rfl,hb⟩
  replace HV:=hid (btr HV.out hb)
  clear hb
  go_wp2_with fail
  refine hK.out _ _ (HV.out) (fun hHeld=>?_)
  clear hK K
  try simp only [Act.put,tp2,tp3,tp4]
  refine tk4 68 (some 246) (Op.field 34 (Operand.tmp 245) 0) 3 (some (65,true)) ?_
  try simp only [Act.put,tp2,tp3,tp4]
  refine tk4 72 (some 250) (Op.binOp BinOp.eql 3 (Operand.tmp 246) (Operand.tmp 249) 3) 4 (some (65,true)) ?_
  try simp only [Act.put,tp2,tp3,tp4]
  refine tk4 73 (some 251) (Op.pick (Operand.tmp 243) (Operand.tmp 250) (Operand.const (Value.bool false))) 4 (none) ?_
  try simp only [Act.put,tp2,tp3,tp4]
  refine tk4 74 (some 252) (Op.move (Operand.tmp 251)) 4 (none) ?_
  try simp only [Act.put,tp2,tp3,tp4]
  clear hHeld
  refine ry2 75 (some 253) (Op.call { callee:=Callee.value (Operand.func 35),args:=#[Operand.const (Value.int IntKind.i64 2)],argTypes:=#[3] }) 27 (some (74,true)) (fun K hK=>?_)
  go_simp
  refine (implStoreNew_any 2 _).mono ?_
  rintro e v75 ⟨rfl,hb⟩
  replace HV:=hid (btr HV.out hb)
  clear hb
  go_wp2_with fail
  refine hK.out _ _ (HV.out) (fun hHeld=>?_)
  clear hK K
  try simp only [Act.put,tp2,tp3,tp4]
  clear hHeld
  refine ry2 76 (some 254) (Op.call { callee:=Callee.value (Operand.func 9),args:=#[Operand.tmp 253],argTypes:=#[27] }) 4 (some (74,true)) (fun K hK=>?_)
  go_simp
  refine (cn.out _ none 0 0 none 0 0 (Tg.nil _ 0).tz).mono ?_
  rintro e v76 ⟨rfl,hb⟩
  replace HV:=hid (btr HV.out hb)
  clear hb
  go_wp2_with fail
  refine hK.out _ _ (HV.out) (fun hHeld=>?_)
  clear hK K
  try simp only [Act.put,tp2,tp3,tp4]
  refine tk4 77 (some 255) (Op.pick (Operand.tmp 252) (Operand.tmp 254) (Operand.const (Value.bool false))) 4 (none) ?_
  try simp only [Act.put,tp2,tp3,tp4]
  refine tk 78 ?_
  refine wpAnyH_done (by kernel_rfl) ?_ _
  refine NoPanic.normal ?_
  clear hHeld
  go_wp2
  go_ret
  exact ⟨rfl,btr BE.out HV.out⟩
end Go.Proofs.YtkbecgcbheopnaaGreat
