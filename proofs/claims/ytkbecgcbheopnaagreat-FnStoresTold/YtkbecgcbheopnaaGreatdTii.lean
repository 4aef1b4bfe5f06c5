/- Tii. -/

import Derived.Test.YtkbecgcbheopnaaGreatdTih
namespace Go.Proofs.YtkbecgcbheopnaaGreat
open Go.RowKit Go.ChangeMaps
set_option maxHeartbeats 800000 in
theorem inPut_any (g:Int) (nm:ByteArray) (t b nx:Int) (ma:Option Addr) (mn mc:Nat) (ga:Option Addr) (gn gc:Nat) (gid fl:Int) (tx:ByteArray) (st sb:Int) (k1 k2 k3 k4:Nat) (ok:Bool) (ny:Int) (K:List M4) (H:List Int) (w:World) (hk1:k1<w.heap.size) (ck1:w.cell? ⟨k1,0,none⟩=some (.int .i64 gid)) (hk2:k2<w.heap.size) (ck2:w.cell? ⟨k2,0,none⟩=some (.int .i64 fl)) (hk3:k3<w.heap.size) (ck3:w.cell? ⟨k3,0,none⟩=some (.string tx)) (hk4:k4<w.heap.size) (ck4:w.cell? ⟨k4,0,none⟩=some (.int .i64 st)∧w.cell? ⟨k4,1,none⟩=some (.int .i64 sb))
  (hC:∀ W,Below w.heap.size w W→Calls Tryz.prog 51 #[.agg #[.int .i64 g,.string nm,.int .i64 t,.int .i64 b,.int .i64 nx,.slice ma mn mc,.slice ga gn gc],.int .i64 gid,.int .i64 fl,.string tx,.agg #[.int .i64 st,.int .i64 sb]] W fun e W'=>∃ mv gv,e=.returned (.tuple #[.agg #[.int .i64 g,.string nm,.int .i64 t,.int .i64 b,.int .i64 ny,mv,gv],.bool ok])∧OwB W' W.heap.size mv gv K H∧Below W.heap.size W W') :
  Calls Tryz.prog 50 #[.agg #[.int .i64 g,.string nm,.int .i64 t,.int .i64 b,.int .i64 nx,.slice ma mn mc,.slice ga gn gc],.pointer (some ⟨k1,0,none⟩),.pointer (some ⟨k2,0,none⟩),.pointer (some ⟨k3,0,none⟩),.pointer (some ⟨k4,0,none⟩)] w fun e w'=>∃ mv gv,e=.returned (.tuple #[.agg #[.int .i64 g,.string nm,.int .i64 t,.int .i64 b,.int .i64 ny,mv,gv],.bool ok])∧OwB w' w.heap.size mv gv K H∧Below w.heap.size w w':=by
 obtain ⟨W0,hW0⟩:∃ W0,((w.alloc (.cells #[.int .i64 g,.string nm,.int .i64 t,.int .i64 b,.int .i64 nx,.slice ma mn mc,.slice ga gn gc] 37)).alloc (.cells #[.int .i64 0,.string ⟨#[]⟩,.int .i64 0,.int .i64 0,.int .i64 0,.slice none 0 0,.slice none 0 0] 37))=W0:=⟨_,rfl⟩
 obtain ⟨a0,a1,b0,s0⟩:=two_boxes w _ _ _ _ _ _ _ _ _ _ _ _ _ _ _ _ W0 hW0
 have c0:=a0.cells
 have dk1:=(b0.cell (p:=⟨k1,0,none⟩) hk1).trans ck1
 have dk2:=(b0.cell (p:=⟨k2,0,none⟩) hk2).trans ck2
 have dk3:=(b0.cell (p:=⟨k3,0,none⟩) hk3).trans ck3
 have dk4:W0.cell? ⟨k4,0,none⟩=some (.int .i64 st)∧W0.cell? ⟨k4,1,none⟩=some (.int .i64 sb):=⟨(b0.cell (p:=⟨k4,0,none⟩) hk4).trans ck4.1,(b0.cell (p:=⟨k4,1,none⟩) hk4).trans ck4.2⟩
 have HC:=hid (hC W0 b0)
 have A1:=hid a1
 have B0:=hid b0
 have S0:=hid s0
 clear a0 a1 b0 s0 hC ck1 ck2 ck3 ck4
 go_enter Tryz.func50,Tryz.ntmps50
 go_wp2_with fail
 clear hW0
 refine HC.out.mono ?_;rintro e w2 ⟨mv,gv,rfl,hown,hb2⟩
 have hox:=hown.owx
 obtain ⟨a2,c2,a3,c3,hv2,hv3,_⟩:=hox.reads
 obtain ⟨m2,hm2⟩:∃ m2,K.length=m2:=⟨_,rfl⟩
 obtain ⟨n2,hn2⟩:∃ n2,H.length=n2:=⟨_,rfl⟩
 rw [hm2] at hv2
 rw [hn2] at hv3
 subst hv2
 subst hv3
 have r2:=A1.out.later hb2
 have q1:=r2.cells
 have q2:=r2.loose
 have R2:=hid r2
 have HO:=hid hown
 have B2:=hid (btr B0.out hb2)
 clear hox hown hb2 hm2 hn2 r2 c0 HC A1 B0
 go_wp2
 have e2:=set7_grown w2 (w.heap.size+1) g nm t b ny (.slice a2 m2 c2) (.slice a3 n2 c3)
 have d1:=(R2.out.set7 g nm t b ny (.slice a2 m2 c2) (.slice a3 n2 c3)).cells
 unfold set7 at d1 e2
 have hs:=S0.out
 refine bodyPost_ret (v:=.tuple #[.agg #[.int .i64 g,.string nm,.int .i64 t,.int .i64 b,.int .i64 ny,.slice a2 m2 c2,.slice a3 n2 c3],.bool ok]) (by simp [results,Tryz.results50,go_sem,d1]) rfl ⟨_,_,rfl,?_,?_⟩
 ·exact (OwB.grown HO.out e2 (by omega)).base (by omega)
 ·exact B2.out.trans (below_of_grown e2 (by omega) B2.out.size)
set_option maxHeartbeats 800000 in
theorem inMark_any (g:Int) (nm:ByteArray) (t b nx:Int) (ma:Option Addr) (mn mc:Nat) (ga:Option Addr) (gn gc:Nat) (gid fl:Int) (st sb:Int) (k1 k2 k3:Nat) (ok:Bool) (ny:Int) (K:List M4) (H:List Int) (w:World) (hk1:k1<w.heap.size) (ck1:w.cell? ⟨k1,0,none⟩=some (.int .i64 gid)) (hk2:k2<w.heap.size) (ck2:w.cell? ⟨k2,0,none⟩=some (.int .i64 fl)) (hk3:k3<w.heap.size) (ck3:w.cell? ⟨k3,0,none⟩=some (.int .i64 st)∧w.cell? ⟨k3,1,none⟩=some (.int .i64 sb))
  (hC:∀ W,Below w.heap.size w W→Calls Tryz.prog 80 #[.agg #[.int .i64 g,.string nm,.int .i64 t,.int .i64 b,.int .i64 nx,.slice ma mn mc,.slice ga gn gc],.int .i64 gid,.int .i64 fl,.agg #[.int .i64 st,.int .i64 sb]] W fun e W'=>∃ mv gv,e=.returned (.tuple #[.agg #[.int .i64 g,.string nm,.int .i64 t,.int .i64 b,.int .i64 ny,mv,gv],.bool ok])∧OwB W' W.heap.size mv gv K H∧Below W.heap.size W W') :
  Calls Tryz.prog 79 #[.agg #[.int .i64 g,.string nm,.int .i64 t,.int .i64 b,.int .i64 nx,.slice ma mn mc,.slice ga gn gc],.pointer (some ⟨k1,0,none⟩),.pointer (some ⟨k2,0,none⟩),.pointer (some ⟨k3,0,none⟩)] w fun e w'=>∃ mv gv,e=.returned (.tuple #[.agg #[.int .i64 g,.string nm,.int .i64 t,.int .i64 b,.int .i64 ny,mv,gv],.bool ok])∧OwB w' w.heap.size mv gv K H∧Below w.heap.size w w':=by
 obtain ⟨W0,hW0⟩:∃ W0,((w.alloc (.cells #[.int .i64 g,.string nm,.int .i64 t,.int .i64 b,.int .i64 nx,.slice ma mn mc,.slice ga gn gc] 37)).alloc (.cells #[.int .i64 0,.string ⟨#[]⟩,.int .i64 0,.int .i64 0,.int .i64 0,.slice none 0 0,.slice none 0 0] 37))=W0:=⟨_,rfl⟩
 obtain ⟨a0,a1,b0,s0⟩:=two_boxes w _ _ _ _ _ _ _ _ _ _ _ _ _ _ _ _ W0 hW0
 have c0:=a0.cells
 have dk1:=(b0.cell (p:=⟨k1,0,none⟩) hk1).trans ck1
 have dk2:=(b0.cell (p:=⟨k2,0,none⟩) hk2).trans ck2
 have dk3:W0.cell? ⟨k3,0,none⟩=some (.int .i64 st)∧W0.cell? ⟨k3,1,none⟩=some (.int .i64 sb):=⟨(b0.cell (p:=⟨k3,0,none⟩) hk3).trans ck3.1,(b0.cell (p:=⟨k3,1,none⟩) hk3).trans ck3.2⟩
 have HC:=hid (hC W0 b0)
 have A1:=hid a1
 have B0:=hid b0
 have S0:=hid s0
 clear a0 a1 b0 s0 hC ck1 ck2 ck3
 go_enter Tryz.func79,Tryz.ntmps79
 go_wp2_with fail
 clear hW0
 refine HC.out.mono ?_;rintro e w2 ⟨mv,gv,rfl,hown,hb2⟩
 have hox:=hown.owx
 obtain ⟨a2,c2,a3,c3,hv2,hv3,_⟩:=hox.reads
 obtain ⟨m2,hm2⟩:∃ m2,K.length=m2:=⟨_,rfl⟩
 obtain ⟨n2,hn2⟩:∃ n2,H.length=n2:=⟨_,rfl⟩
 rw [hm2] at hv2
 rw [hn2] at hv3
 subst hv2
 subst hv3
 have r2:=A1.out.later hb2
 have q1:=r2.cells
 have q2:=r2.loose
 have R2:=hid r2
 have HO:=hid hown
 have B2:=hid (btr B0.out hb2)
 clear hox hown hb2 hm2 hn2 r2 c0 HC A1 B0
 go_wp2
 have e2:=set7_grown w2 (w.heap.size+1) g nm t b ny (.slice a2 m2 c2) (.slice a3 n2 c3)
 have d1:=(R2.out.set7 g nm t b ny (.slice a2 m2 c2) (.slice a3 n2 c3)).cells
 unfold set7 at d1 e2
 have hs:=S0.out
 refine bodyPost_ret (v:=.tuple #[.agg #[.int .i64 g,.string nm,.int .i64 t,.int .i64 b,.int .i64 ny,.slice a2 m2 c2,.slice a3 n2 c3],.bool ok]) (by simp [results,Tryz.results79,go_sem,d1]) rfl ⟨_,_,rfl,?_,?_⟩
 ·exact (OwB.grown HO.out e2 (by omega)).base (by omega)
 ·exact B2.out.trans (below_of_grown e2 (by omega) B2.out.size)
set_option maxHeartbeats 800000 in
theorem inDrop_any (g:Int) (nm:ByteArray) (t b nx:Int) (ma:Option Addr) (mn mc:Nat) (ga:Option Addr) (gn gc:Nat) (gid:Int) (k1:Nat) (ok:Bool) (ny:Int) (K:List M4) (H:List Int) (w:World) (hk1:k1<w.heap.size) (ck1:w.cell? ⟨k1,0,none⟩=some (.int .i64 gid))
  (hC:∀ W,Below w.heap.size w W→Calls Tryz.prog 84 #[.agg #[.int .i64 g,.string nm,.int .i64 t,.int .i64 b,.int .i64 nx,.slice ma mn mc,.slice ga gn gc],.int .i64 gid] W fun e W'=>∃ mv gv,e=.returned (.tuple #[.agg #[.int .i64 g,.string nm,.int .i64 t,.int .i64 b,.int .i64 ny,mv,gv],.bool ok])∧OwB W' W.heap.size mv gv K H∧Below W.heap.size W W') :
  Calls Tryz.prog 83 #[.agg #[.int .i64 g,.string nm,.int .i64 t,.int .i64 b,.int .i64 nx,.slice ma mn mc,.slice ga gn gc],.pointer (some ⟨k1,0,none⟩)] w fun e w'=>∃ mv gv,e=.returned (.tuple #[.agg #[.int .i64 g,.string nm,.int .i64 t,.int .i64 b,.int .i64 ny,mv,gv],.bool ok])∧OwB w' w.heap.size mv gv K H∧Below w.heap.size w w':=by
 obtain ⟨W0,hW0⟩:∃ W0,((w.alloc (.cells #[.int .i64 g,.string nm,.int .i64 t,.int .i64 b,.int .i64 nx,.slice ma mn mc,.slice ga gn gc] 37)).alloc (.cells #[.int .i64 0,.string ⟨#[]⟩,.int .i64 0,.int .i64 0,.int .i64 0,.slice none 0 0,.slice none 0 0] 37))=W0:=⟨_,rfl⟩
 obtain ⟨a0,a1,b0,s0⟩:=two_boxes w _ _ _ _ _ _ _ _ _ _ _ _ _ _ _ _ W0 hW0
 have c0:=a0.cells
 have dk1:=(b0.cell (p:=⟨k1,0,none⟩) hk1).trans ck1
 have HC:=hid (hC W0 b0)
 have A1:=hid a1
 have B0:=hid b0
 have S0:=hid s0
 clear a0 a1 b0 s0 hC ck1
 go_enter Tryz.func83,Tryz.ntmps83
 go_wp2_with fail
 clear hW0
 refine HC.out.mono ?_;rintro e w2 ⟨mv,gv,rfl,hown,hb2⟩
 have hox:=hown.owx
 obtain ⟨a2,c2,a3,c3,hv2,hv3,_⟩:=hox.reads
 obtain ⟨m2,hm2⟩:∃ m2,K.length=m2:=⟨_,rfl⟩
 obtain ⟨n2,hn2⟩:∃ n2,H.length=n2:=⟨_,rfl⟩
 rw [hm2] at hv2
 rw [hn2] at hv3
 subst hv2
 subst hv3
 have r2:=A1.out.later hb2
 have q1:=r2.cells
 have q2:=r2.loose
 have R2:=hid r2
 have HO:=hid hown
 have B2:=hid (btr B0.out hb2)
 clear hox hown hb2 hm2 hn2 r2 c0 HC A1 B0
 go_wp2
 have e2:=set7_grown w2 (w.heap.size+1) g nm t b ny (.slice a2 m2 c2) (.slice a3 n2 c3)
 have d1:=(R2.out.set7 g nm t b ny (.slice a2 m2 c2) (.slice a3 n2 c3)).cells
 unfold set7 at d1 e2
 have hs:=S0.out
 refine bodyPost_ret (v:=.tuple #[.agg #[.int .i64 g,.string nm,.int .i64 t,.int .i64 b,.int .i64 ny,.slice a2 m2 c2,.slice a3 n2 c3],.bool ok]) (by simp [results,Tryz.results83,go_sem,d1]) rfl ⟨_,_,rfl,?_,?_⟩
 ·exact (OwB.grown HO.out e2 (by omega)).base (by omega)
 ·exact B2.out.trans (below_of_grown e2 (by omega) B2.out.size)
end Go.Proofs.YtkbecgcbheopnaaGreat
