/- Usv. -/

import Derived.Test.YtkbecgcbheopnaaGreatdUsu
namespace Go.Proofs.YtkbecgcbheopnaaGreat
open Go.RowKit Go.ChangeMaps
set_option maxHeartbeats 1600000 in
set_option maxRecDepth 100000 in
theorem l07Store_any (cb:Nat) (ao:Option Addr) (n cap:Nat) (w:World) (hn:n≤1048576) (hcur:Cur w cb ao n cap) (hcode:Code w cb ao n) :
  Calls Tryz.prog 36 #[.pointer (some ⟨cb,0,none⟩)] w fun e w'=>Sto7 cb ao n cap w e w':=by
 have hlt:=hcur.lt
 have R0:=hid (Sx.new w 27 0 0 (.slice none 0 0) (.slice none 0 0))
 have C0:=hid (hcur.alloc (.cells #[.int .i64 0,.int .i64 0,.slice none 0 0,.slice none 0 0] 27))
 have HO:=hid hcode
 have G0:=hid (World.grownBy_alloc w (.cells #[.int .i64 0,.int .i64 0,.slice none 0 0,.slice none 0 0] 27) (some cb))
 clear hcur hcode
 go_enter Tryz.func36,Tryz.ntmps36
 go_wp2_with fail
 refine (below4 cb ao n cap _ hn C0.out (HO.out.later G0.out) 12 (by decide) (by decide)).mono ?_;rintro e w1 ⟨x,hx,rfl,hc,hg⟩
 have C1:=hid hc
 have G1:=hid (only_trans G0.out hg)
 have R1:=hid (R0.out.off hg (by omega))
 clear hc hg C0 G0 R0
 go_wp2_with fail
 have hm:∃ m:Nat,m≤13∧(2+(x:Int))=(m:Int):=⟨2+x,by omega,by omega⟩
 obtain ⟨m,hm,hme⟩:=hm
 try rw [hme]
 have HME:=hid hme
 clear hme
 refine (below4 cb ao n cap _ hn C1.out (HO.out.later G1.out) 2 (by decide) (by decide)).mono ?_;rintro e w2 ⟨z,hz,rfl,hc,hg⟩
 have C2:=hid hc
 have G2:=hid (only_trans G1.out hg)
 have R2:=hid (R1.out.off hg (by omega))
 clear hc hg C1 G1 R1
 go_wp2_with fail
 refine (specStoreNew_any _ _).mono ?_;rintro e w3 ⟨rfl,hb⟩
 have C3:=hid (C2.out.later hb C2.out.lt)
 have G3:=hid (only_add G2.out (hb.mono G2.out.size))
 have R3:=hid (R2.out.later hb)
 clear hb C2 G2 R2
 go_wp2_with fail
 try rw [HME.out]
 refine (l07Use_any cb ao n cap (1+(z:Int)) m _ hn C3.out (HO.out.later G3.out) (by omega) hm).mono ?_
 rintro e w4 ⟨hi,y,tm,ba,bn,bc,ga,gn,gc,S,G,rfl,hr,ht,hc,hg⟩
 have C4:=hid hc
 have G4:=hid (only_trans G3.out hg)
 have hR:=R3.out.off hg (by omega)
 have HS:Hid (w.heap.size+1≤w3.heap.size):=R3.out.lt
 have HR:=hid hR
 have HT:=hid ht
 have HRR:=hid hr
 have q1:=hR.cells
 have f1:=hR.loose
 clear hR ht hr hc hg C3 G3 R3 hx hz hm HME
 go_wp2
 have e2:=put4_grown w4 w.heap.size y tm (.slice ba bn bc) (.slice ga gn gc)
 have d1:=(HR.out.put4 y tm (.slice ba bn bc) (.slice ga gn gc)).cells
 have e3:w.grownBy (put4 w4 w.heap.size y tm (.slice ba bn bc) (.slice ga gn gc)) (some cb):=by
  unfold put4
  exact gset (gset (gset (gset G4.out (Nat.le_refl _) _ _) (Nat.le_refl _) _ _) (Nat.le_refl _) _ _) (Nat.le_refl _) _ _
 have e4:Cur (put4 w4 w.heap.size y tm (.slice ba bn bc) (.slice ga gn gc)) cb ao n cap:=by
  unfold put4
  exact (((C4.out.set (by omega)).set (by omega)).set (by omega)).set (by omega)
 have e5:=(HT.out.far e2 (.inl HS.out))
 unfold put4 at d1 e2 e3 e4 e5
 refine bodyPost_ret (v:=.agg #[.int .i64 y,.int .i64 tm,.slice ba bn bc,.slice ga gn gc]) (by simp [results,Tryz.results36,go_sem,d1]) rfl ⟨hi,y,tm,ba,bn,bc,ga,gn,gc,S,G,rfl,HRR.out,?_,e4,e3⟩
 exact e5.wide (by have:=HS.out;omega) (Nat.le_refl _) e5.top
def Dst7 (w:World) (e:Ending) (w':World):Prop :=
 ∃ (hi:Nat) (y tm:Int) (ba:Option Addr) (bn bc:Nat) (ga:Option Addr) (gn gc:Nat) (S:List X7) (G:List Int),e=.returned (.agg #[.int .i64 y,.int .i64 tm,.slice ba bn bc,.slice ga gn gc])∧R7 13 y tm S G∧Tg w' w.heap.size hi ba bn bc ga gn gc S G∧Below w.heap.size w w'
end Go.Proofs.YtkbecgcbheopnaaGreat
