/- Tih. -/

import Derived.Test.YtkbecgcbheopnaaGreatdTig
namespace Go.Proofs.YtkbecgcbheopnaaGreat
open Go.RowKit Go.ChangeMaps
def pik {α:Type} (ok:Bool) (a b:α):α:=if ok=true then a else b
set_option maxHeartbeats 3200000 in
set_option maxRecDepth 100000 in
theorem changed_any (F:Nat) (caps:Array Value) (ok0:Bool) (tm1:Int) (S1:List X7) (G1:List Int) (lo hh lo' hh':Nat) (y tm:Int) (ba:Option Addr) (bn bc:Nat) (ga:Option Addr) (gn gc:Nat) (S:List X7) (G:List Int) (w:World) (hl:S.length=bn) (hn:bn≤1048576) (hsb:Sb S) (hm:Bs lo hh w ba S) (hm0:ba=none→bc=0) (hgl:G.length=gn) (hgn:gn≤1048576) (hs:Is lo' hh' w ga G) (hg0:ga=none→gc=0)
  (hE:∀ args W,(callFunc F args).run Tryz.prog W=.ok (.enter F args) W)
  (hch:sOk y tm S G=true→∀ (W:World) (k:Nat) (bv gv:Value),w.heap.size≤k→Below w.heap.size w W→Sx W k 27 y tm bv gv→OwT W (k+1) bv gv S G→Calls Tryz.prog F (#[.pointer (some ⟨k,0,none⟩)]++caps) W fun e W'=>e=.returned (.bool ok0)∧(ok0=true→∃ bv' gv',Sx W' k 27 y tm1 bv' gv'∧OwT W' (k+1) bv' gv' S1 G1)∧Below k W W')
  (hsz:sOk y tm S G=true→ok0=true→Sb S1∧S1.length≤1048576∧G1.length≤1048576)
  (ok2:Bool) (h2:(sOk y tm S G&&(ok0&&sOk y tm1 S1 G1))=ok2) :
  Calls Tryz.prog 40 #[.agg #[.int .i64 y,.int .i64 tm,.slice ba bn bc,.slice ga gn gc],.func (.func F) #[] caps] w fun e w'=>∃ bv gv,e=.returned (.tuple #[.agg #[.int .i64 y,.int .i64 (pik ok2 tm1 tm),bv,gv],.bool ok2])∧OwT w' w.heap.size bv gv (pik ok2 S1 S) (pik ok2 G1 G)∧Below w.heap.size w w':=by
 obtain ⟨W0,hW0⟩:∃ W0,(w.alloc (.cells #[.int .i64 y,.int .i64 tm,.slice ba bn bc,.slice ga gn gc] 27)).alloc (.cells #[.int .i64 0,.int .i64 0,.slice none 0 0,.slice none 0 0] 27)=W0:=⟨_,rfl⟩
 obtain ⟨a0,r0,b0,s0⟩:=two_stores w _ _ _ _ _ _ _ _ _ _ W0 hW0
 obtain ⟨p,hp⟩:∃ p,sOk y tm S G=p:=⟨_,rfl⟩
 rw [hp] at h2
 have HP:=hid hp
 have H2:=hid h2
 have c0:=a0.cells
 have A0:=hid a0
 have R0:=hid r0
 have B0:=hid b0
 have S0:=hid s0
 have HL:=hid hl
 have HN:=hid hn
 have HSB:=hid hsb
 have HR:=hid hm
 have HM0:=hid hm0
 have HGL:=hid hgl
 have HGN:=hid hgn
 have HIS:=hid hs
 have HG0:=hid hg0
 have HCH:=hid hch
 have HSZ:=hid hsz
 clear a0 r0 b0 s0 hl hn hsb hm hm0 hgl hgn hs hg0 hp h2 hch hsz
 go_enter Tryz.func40,Tryz.ntmps40
 go_wp2_with fail
 clear hW0
 refine (implStoreOk_any lo hh lo' hh' y tm ba bn bc ga gn gc S G _ HL.out HN.out HSB.out (HR.out.later B0.out) HGL.out HGN.out (HIS.out.later B0.out)).mono ?_;rintro e w1 ⟨rfl,hb1⟩
 rw [HP.out]
 have A1:=hid (A0.out.later hb1)
 have R1:=hid (R0.out.later hb1)
 have B1:=hid (btr B0.out hb1)
 clear hb1 c0 A0 R0 B0
 cases p
 ·have HE:Hid (ok2=false):=by show _=_;rw [← H2.out];rfl
  clear H2
  have c0:=A1.out.cells
  go_wp2_with fail
  refine (opened_any lo hh lo' hh' y tm ba bn bc ga gn gc S G _ HL.out HN.out HSB.out (HR.out.later B1.out) HM0.out HGL.out HGN.out (HIS.out.later B1.out) HG0.out).mono ?_;rintro e w8 ⟨rfl,bv,gv,hsx,hot,hb8⟩
  obtain ⟨a8,c8,a9,c9,hv8,hv9⟩:=hot.shape
  rw [HL.out] at hv8
  rw [HGL.out] at hv9
  subst hv8
  subst hv9
  have k8:=hsx.cells
  have r8:=R1.out.later hb8
  have q1:=r8.cells
  have q2:=r8.loose
  have R8:=hid r8
  have O8:=hid hot
  have HK8:=hid R1.out.lt
  have B8:=hid (btr B1.out hb8)
  clear r8 hot hb8 hsx c0
  go_wp2
  have e2:=put4_grown w8 (w.heap.size+1) y tm (.slice a8 bn c8) (.slice a9 gn c9)
  have d1:=(R8.out.put4 y tm (.slice a8 bn c8) (.slice a9 gn c9)).cells
  unfold put4 at d1 e2
  have hk8:=HK8.out
  refine bodyPost_ret (v:=.tuple #[.agg #[.int .i64 y,.int .i64 tm,.slice a8 bn c8,.slice a9 gn c9],.bool false]) (by simp [results,Tryz.results40,go_sem,d1]) rfl ⟨_,_,by rw [HE.out];rfl,?_,?_⟩
  ·rw [HE.out]
   exact (O8.out.grown e2 (by omega)).base (by omega)
  ·have hbs:=B8.out.size
   exact B8.out.trans (below_of_grown e2 (by omega) hbs)
 have HC1:=hid (HCH.out HP.out)
 have HZ1:=hid (HSZ.out HP.out)
 have H2:Hid ((ok0&&sOk y tm1 S1 G1)=ok2):=by show _=_;rw [← H2.out];rfl
 have c0:=A1.out.cells
 go_wp2_with fail
 refine (opened_any lo hh lo' hh' y tm ba bn bc ga gn gc S G _ HL.out HN.out HSB.out (HR.out.later B1.out) HM0.out HGL.out HGN.out (HIS.out.later B1.out) HG0.out).mono ?_;rintro e w2 ⟨rfl,bv2,gv2,hsx2,hot2,hb2⟩
 have A2:=hid (A1.out.later hb2)
 have R2:=hid (R1.out.later hb2)
 have B2:=hid (btr B1.out hb2)
 have HK:Hid (w.heap.size+1<w1.heap.size):=R1.out.lt
 obtain ⟨k,hk⟩:∃ k,w1.heap.size=k:=⟨_,rfl⟩
 rw [hk] at hsx2 hot2 HK
 rw [hk]
 have O2:=hid hot2
 have X2:=hid hsx2
 have HCC:=hid (HC1.out w2 k bv2 gv2 (by have:=HK.out;omega) B2.out hsx2 hot2)
 clear hb2 hsx2 hot2 c0 hk A1 R1 B1 HC1
 go_wp2_with fail
 refine HCC.out.mono ?_;rintro e w3 ⟨rfl,hst,hb3⟩
 have A3:Hid (Sx w3 w.heap.size 27 y tm (.slice ba bn bc) (.slice ga gn gc)):=(hb3.block _ (by have:=HK.out;omega)).trans A2.out
 have R3:Hid (Sx w3 (w.heap.size+1) 27 0 0 (.slice none 0 0) (.slice none 0 0)):=(hb3.block _ HK.out).trans R2.out
 have B3:Hid (Below w.heap.size w w3):=B2.out.trans (hb3.mono (by have:=HK.out;omega))
 have HST:=hid hst
 have HB3:=hid hb3
 clear hb3 hst HCC A2 R2
 cases ok0
 ·have HE:Hid (ok2=false):=by show _=_;rw [← H2.out];rfl
  clear H2
  have c0:=A3.out.cells
  go_wp2_with fail
  refine (opened_any lo hh lo' hh' y tm ba bn bc ga gn gc S G _ HL.out HN.out HSB.out (HR.out.later B3.out) HM0.out HGL.out HGN.out (HIS.out.later B3.out) HG0.out).mono ?_;rintro e w8 ⟨rfl,bv,gv,hsx,hot,hb8⟩
  obtain ⟨a8,c8,a9,c9,hv8,hv9⟩:=hot.shape
  rw [HL.out] at hv8
  rw [HGL.out] at hv9
  subst hv8
  subst hv9
  have k8:=hsx.cells
  have r8:=R3.out.later hb8
  have q1:=r8.cells
  have q2:=r8.loose
  have R8:=hid r8
  have O8:=hid hot
  have HK8:=hid R3.out.lt
  have B8:=hid (btr B3.out hb8)
  clear r8 hot hb8 hsx c0
  go_wp2
  have e2:=put4_grown w8 (w.heap.size+1) y tm (.slice a8 bn c8) (.slice a9 gn c9)
  have d1:=(R8.out.put4 y tm (.slice a8 bn c8) (.slice a9 gn c9)).cells
  unfold put4 at d1 e2
  have hk8:=HK8.out
  refine bodyPost_ret (v:=.tuple #[.agg #[.int .i64 y,.int .i64 tm,.slice a8 bn c8,.slice a9 gn c9],.bool false]) (by simp [results,Tryz.results40,go_sem,d1]) rfl ⟨_,_,by rw [HE.out];rfl,?_,?_⟩
  ·rw [HE.out]
   exact (O8.out.grown e2 (by omega)).base (by omega)
  ·have hbs:=B8.out.size
   exact B8.out.trans (below_of_grown e2 (by omega) hbs)
 obtain ⟨bv3,gv3,hsx3,hot3⟩:=HST.out rfl
 have hz1:=HZ1.out rfl
 obtain ⟨n3,hn3⟩:∃ n3,S1.length=n3:=⟨_,rfl⟩
 obtain ⟨m3,hm3⟩:∃ m3,G1.length=m3:=⟨_,rfl⟩
 obtain ⟨a3,c3,a4,c4,hv3,hv4⟩:=hot3.shape
 rw [hn3] at hv3
 rw [hm3] at hv4
 subst hv3
 subst hv4
 have hrd:=hot3.reads.2.2.1
 have hrg:=hot3.reads.2.2.2
 obtain ⟨p3,hp3⟩:∃ p3,sOk y tm1 S1 G1=p3:=⟨_,rfl⟩
 rw [hp3] at H2
 have HP3:=hid hp3
 have HN3:=hid hn3
 have HM3:=hid hm3
 have HZ:=hid hz1
 have HRD:=hid hrd
 have HRG:=hid hrg
 have X3:=hid hsx3
 have O3:=hid hot3
 have c3':=hsx3.cells
 rw [hn3,hm3] at HZ
 clear hsx3 hot3 hz1 hn3 hm3 hrd hrg hp3 HST
 go_wp2_with fail
 refine (implStoreOk_any _ _ _ _ y tm1 a3 n3 c3 a4 m3 c4 S1 G1 _ HN3.out HZ.out.2.1 HZ.out.1 HRD.out HM3.out HZ.out.2.2 HRG.out).mono ?_;rintro e w4 ⟨rfl,hb4⟩
 rw [HP3.out]
 have A4:=hid (A3.out.later hb4)
 have R4:=hid (R3.out.later hb4)
 have B4:=hid (btr B3.out hb4)
 have X4:=hid (X3.out.later hb4)
 have O4:=hid (O3.out.later hb4)
 clear hb4 c3' A3 R3 B3 X3 O3
 cases p3
 ·have HE:Hid (ok2=false):=by show _=_;rw [← H2.out];rfl
  clear H2
  have c0:=A4.out.cells
  go_wp2_with fail
  refine (opened_any lo hh lo' hh' y tm ba bn bc ga gn gc S G _ HL.out HN.out HSB.out (HR.out.later B4.out) HM0.out HGL.out HGN.out (HIS.out.later B4.out) HG0.out).mono ?_;rintro e w8 ⟨rfl,bv,gv,hsx,hot,hb8⟩
  obtain ⟨a8,c8,a9,c9,hv8,hv9⟩:=hot.shape
  rw [HL.out] at hv8
  rw [HGL.out] at hv9
  subst hv8
  subst hv9
  have k8:=hsx.cells
  have r8:=R4.out.later hb8
  have q1:=r8.cells
  have q2:=r8.loose
  have R8:=hid r8
  have O8:=hid hot
  have HK8:=hid R4.out.lt
  have B8:=hid (btr B4.out hb8)
  clear r8 hot hb8 hsx c0
  go_wp2
  have e2:=put4_grown w8 (w.heap.size+1) y tm (.slice a8 bn c8) (.slice a9 gn c9)
  have d1:=(R8.out.put4 y tm (.slice a8 bn c8) (.slice a9 gn c9)).cells
  unfold put4 at d1 e2
  have hk8:=HK8.out
  refine bodyPost_ret (v:=.tuple #[.agg #[.int .i64 y,.int .i64 tm,.slice a8 bn c8,.slice a9 gn c9],.bool false]) (by simp [results,Tryz.results40,go_sem,d1]) rfl ⟨_,_,by rw [HE.out];rfl,?_,?_⟩
  ·rw [HE.out]
   exact (O8.out.grown e2 (by omega)).base (by omega)
  ·have hbs:=B8.out.size
   exact B8.out.trans (below_of_grown e2 (by omega) hbs)
 have HE:Hid (ok2=true):=by show _=_;rw [← H2.out];rfl
 have c4':=X4.out.cells
 have q1:=R4.out.cells
 have q2:=R4.out.loose
 clear H2
 go_wp2
 have e2:=put4_grown w4 (w.heap.size+1) y tm1 (.slice a3 n3 c3) (.slice a4 m3 c4)
 have d1:=(R4.out.put4 y tm1 (.slice a3 n3 c3) (.slice a4 m3 c4)).cells
 unfold put4 at d1 e2
 have hk:=HK.out
 refine bodyPost_ret (v:=.tuple #[.agg #[.int .i64 y,.int .i64 tm1,.slice a3 n3 c3,.slice a4 m3 c4],.bool true]) (by simp [results,Tryz.results40,go_sem,d1]) rfl ⟨_,_,by rw [HE.out];rfl,?_,?_⟩
 ·rw [HE.out]
  exact (O4.out.grown e2 (by omega)).base (by omega)
 ·have hbs:=B4.out.size
  exact B4.out.trans (below_of_grown e2 (by omega) hbs)
end Go.Proofs.YtkbecgcbheopnaaGreat
