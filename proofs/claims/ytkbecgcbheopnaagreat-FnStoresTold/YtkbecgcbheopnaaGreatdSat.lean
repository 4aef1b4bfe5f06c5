/- Sat. -/

import Derived.Test.YtkbecgcbheopnaaGreatdStb
namespace Go.Proofs.YtkbecgcbheopnaaGreat
open Go.RowKit Go.ChangeMaps
def fidx {α:Type} (p:α→Bool):List α→Nat→Int
 | [],_=>-1
 | x::S,i=>if p x=true then (i:Int) else fidx p S (i+1)
theorem fidx_here {α:Type} {p:α→Bool} {S:List α} {i:Nat} (h:i<S.length) (e:p S[i]=true):fidx p (S.drop i) i=i:=by
 rw [List.drop_eq_getElem_cons h,fidx,if_pos e]
theorem fidx_on {α:Type} {p:α→Bool} {S:List α} {i:Nat} (h:i<S.length) (e:p S[i]=false):fidx p (S.drop i) i=fidx p (S.drop (i+1)) (i+1):=by
 rw [List.drop_eq_getElem_cons h,fidx,if_neg (by rw [e];decide)]
theorem fidx_any {α:Type} (p:α→Bool) (S:List α) (k:Nat):decide (0≤fidx p S k)=S.any p:=by
 induction S generalizing k with
 | nil=>rfl
 | cons x S ih =>
  rw [fidx,List.any_cons]
  cases hp:p x with
  | true=>simp
  | false=>rw [if_neg (by decide),ih (k+1)];simp
def Sb (S:List X7):Prop:=∀ x∈S,x.2.1.size≤1048576∧x.2.2.2.2.2.1.length≤1048576∧Sm x.2.2.2.2.2.1∧x.2.2.2.2.2.2.length≤1048576
def isG (g:Int) (x:X7):Bool:=decide (x.1=g)
def isN (n:ByteArray) (x:X7):Bool:=decide (x.2.1=n)
set_option maxHeartbeats 800000 in
set_option maxRecDepth 100000 in
theorem specBoxAt_any (lo hi:Nat) (y tm:Int) (ba:Option Addr) (bn bc:Nat) (gv:Value) (S:List X7) (x:Int) (w:World) (hl:S.length=bn) (hn:bn≤1048576) (hm:Bs lo hi w ba S) :
  Calls Tryz.prog 74 #[.agg #[.int .i64 y,.int .i64 tm,.slice ba bn bc,gv],.int .i64 x] w fun e w'=>e=.returned (.int .i64 (fidx (isG x) S 0))∧Below w.heap.size w w':=by
 obtain ⟨W0,hW0⟩:∃ W0,w.alloc (.cells #[.int .i64 y,.int .i64 tm,.slice ba bn bc,gv] 27)=W0:=⟨_,rfl⟩
 have a0:Sx W0 w.heap.size 27 y tm (.slice ba bn bc) gv:=by subst hW0;exact Sx.new w _ y tm _ _
 have b0:Below w.heap.size w W0:=by subst hW0;exact bpush (bre _) _
 have c0:=a0.cells
 have HR:=hid (hm.later b0)
 have B0:=hid b0
 have HL:=hid hl
 clear a0 b0 hm hl
 go_enter Tryz.func74,Tryz.ntmps74
 go_wp2
 clear hW0
 go_loopw [5] (fun iv wr=>∃ (i:Nat),i≤bn∧iv=.int .i64 (i:Int)∧Hid (fidx (isG x) S 0=fidx (isG x) (S.drop i) i)∧wr=W0) (fun iv _=>bn - (intOf iv).toNat)
 case atStart=>exact ⟨0,Nat.zero_le _,rfl,rfl,rfl⟩
 case round =>
  obtain ⟨i,hi,rfl,HQ,hw⟩:=hrel
  subst hw
  by_cases hlt:i<bn
  ·have hil:i<S.length:=by rw [HL.out];exact hlt
   obtain ⟨k,o,ma,mc,ga,gc,rfl,hk,c,_⟩:=HR.out.at hil
   obtain ⟨z,hz⟩:∃ z,S[i].1=z:=⟨_,rfl⟩
   have c:=c.1
   rw [hz] at c
   have hI:(0:Int)≤(i:Int)∧(i:Int)<(bn:Int):=by omega
   by_cases hxy:z=x
   ·have HE:Hid (fidx (isG x) S 0=i):=by show _=_;rw [HQ.out,fidx_here hil (by unfold isG;rw [hz,hxy];simp)]
    subst hxy
    clear hz
    go_wp2
    go_ret
    exact ⟨by rw [HE.out];rfl,B0.out⟩
   ·have HE:Hid (fidx (isG x) S 0=fidx (isG x) (S.drop (i+1)) (i+1)):=by show _=_;rw [HQ.out,fidx_on hil (by unfold isG;rw [hz];simp [hxy])]
    have hxy':(z == x)=false:=by simp [hxy]
    clear hz hxy
    go_wp2
    go_roundw
    case rel=>exact ⟨i+1,by omega,by go_num,HE,by first | rfl | trivial⟩
    case measure=>simp [intOf];omega
  ·have HE:Hid (fidx (isG x) S 0=-1):=by show _=_;rw [HQ.out,List.drop_of_length_le (by rw [HL.out];omega)];rfl
   go_wp2
   go_ret
   exact ⟨by rw [HE.out];rfl,B0.out⟩
set_option maxHeartbeats 800000 in
set_option maxRecDepth 100000 in
theorem specBoxNamed_any (lo hi:Nat) (y tm:Int) (ba:Option Addr) (bn bc:Nat) (gv:Value) (S:List X7) (x:ByteArray) (w:World) (hl:S.length=bn) (hn:bn≤1048576) (hm:Bs lo hi w ba S) :
  Calls Tryz.prog 70 #[.agg #[.int .i64 y,.int .i64 tm,.slice ba bn bc,gv],.string x] w fun e w'=>e=.returned (.int .i64 (fidx (isN x) S 0))∧Below w.heap.size w w':=by
 obtain ⟨W0,hW0⟩:∃ W0,w.alloc (.cells #[.int .i64 y,.int .i64 tm,.slice ba bn bc,gv] 27)=W0:=⟨_,rfl⟩
 have a0:Sx W0 w.heap.size 27 y tm (.slice ba bn bc) gv:=by subst hW0;exact Sx.new w _ y tm _ _
 have b0:Below w.heap.size w W0:=by subst hW0;exact bpush (bre _) _
 have c0:=a0.cells
 have HR:=hid (hm.later b0)
 have B0:=hid b0
 have HL:=hid hl
 clear a0 b0 hm hl
 go_enter Tryz.func70,Tryz.ntmps70
 go_wp2
 clear hW0
 go_loopw [5] (fun iv wr=>∃ (i:Nat),i≤bn∧iv=.int .i64 (i:Int)∧Hid (fidx (isN x) S 0=fidx (isN x) (S.drop i) i)∧wr=W0) (fun iv _=>bn - (intOf iv).toNat)
 case atStart=>exact ⟨0,Nat.zero_le _,rfl,rfl,rfl⟩
 case round =>
  obtain ⟨i,hi,rfl,HQ,hw⟩:=hrel
  subst hw
  by_cases hlt:i<bn
  ·have hil:i<S.length:=by rw [HL.out];exact hlt
   obtain ⟨k,o,ma,mc,ga,gc,rfl,hk,c,_⟩:=HR.out.at hil
   obtain ⟨z,hz⟩:∃ z,S[i].2.1=z:=⟨_,rfl⟩
   have c:=c.2.1
   rw [hz] at c
   have hI:(0:Int)≤(i:Int)∧(i:Int)<(bn:Int):=by omega
   by_cases hxy:z=x
   ·have HE:Hid (fidx (isN x) S 0=i):=by show _=_;rw [HQ.out,fidx_here hil (by unfold isN;rw [hz,hxy];simp)]
    subst hxy
    clear hz
    go_wp2
    go_ret
    exact ⟨by rw [HE.out];rfl,B0.out⟩
   ·have HE:Hid (fidx (isN x) S 0=fidx (isN x) (S.drop (i+1)) (i+1)):=by show _=_;rw [HQ.out,fidx_on hil (by unfold isN;rw [hz];simp [hxy])]
    have hxy':(z.toList == x.toList)=false:=bytes_ne hxy
    clear hz hxy
    go_wp2
    go_roundw
    case rel=>exact ⟨i+1,by omega,by go_num,HE,by first | rfl | trivial⟩
    case measure=>simp [intOf];omega
  ·have HE:Hid (fidx (isN x) S 0=-1):=by show _=_;rw [HQ.out,List.drop_of_length_le (by rw [HL.out];omega)];rfl
   go_wp2
   go_ret
   exact ⟨by rw [HE.out];rfl,B0.out⟩
theorem specNextStamp_any (y tm:Int) (bv gv:Value) (w:World) (ht:-9223372036854775808≤tm∧tm≤9223372036854775806) :
  Calls Tryz.prog 72 #[.agg #[.int .i64 y,.int .i64 tm,bv,gv]] w fun e w'=>e=.returned (.agg #[.int .i64 (tm+1),.int .i64 y])∧Below w.heap.size w w':=by
 obtain ⟨W0,hW0⟩:∃ W0,(w.alloc (.cells #[.int .i64 y,.int .i64 tm,bv,gv] 27)).alloc (.cells #[.int .i64 0,.int .i64 0] 34)=W0:=⟨_,rfl⟩
 have a0:Sx W0 w.heap.size 27 y tm bv gv:=by subst hW0;exact (Sx.new w _ y tm _ _).later (bpush (bre _) _)
 have a1:Sg W0 (w.heap.size+1) 34 0 0:=by
  have h:=Sg.new (w.alloc (.cells #[.int .i64 y,.int .i64 tm,bv,gv] 27)) 34 0 0
  have e:(w.alloc (.cells #[.int .i64 y,.int .i64 tm,bv,gv] 27)).heap.size=w.heap.size+1:=by simp
  rw [e,hW0] at h
  exact h
 have b0:Below w.heap.size w W0:=by subst hW0;exact bpush (bpush (bre _) _) _
 have c0:=a0.cells
 have c1:=a1.cells
 have f1:=a1.loose
 have A1:=hid a1
 have B0:=hid b0
 clear a0 a1 b0
 go_enter Tryz.func72,Tryz.ntmps72
 go_wp2
 have c3:=(A1.out.set' (t':=tm+1) (b':=y)).cells
 exact bodyPost_ret (v:=stv (tm+1) y) (by simp [results,Tryz.results72,go_sem,c3]) rfl ⟨rfl,B0.out.trans (((Below.refl _ _).setCell (p:=⟨w.heap.size+1,0,none⟩) (by show w.heap.size≤w.heap.size+1;omega) _).setCell (p:=⟨w.heap.size+1,1,none⟩) (by show w.heap.size≤w.heap.size+1;omega) _)⟩
theorem specStoreNew_any (y:Int) (w:World) :
  Calls Tryz.prog 94 #[.int .i64 y] w fun e w'=>e=.returned (.agg #[.int .i64 y,.int .i64 0,.slice none 0 0,.slice none 0 0])∧Below w.heap.size w w':=by
 have a0:=Sx.new w 27 0 0 (.slice none 0 0) (.slice none 0 0)
 have A0:=hid a0
 have c0:=a0.cells
 have f0:=a0.loose
 have hb:Below w.heap.size w (w.alloc (.cells #[.int .i64 0,.int .i64 0,.slice none 0 0,.slice none 0 0] 27)):=bpush (bre _) _
 have B0:=hid hb
 clear a0 hb
 go_enter Tryz.func94,Tryz.ntmps94
 go_wp2
 have d1:=(Sx.new w 27 y 0 (.slice none 0 0) (.slice none 0 0)).cells
 exact bodyPost_ret (v:=.agg #[.int .i64 y,.int .i64 0,.slice none 0 0,.slice none 0 0]) (by simp [results,Tryz.results94,go_sem,d1]) rfl ⟨rfl,bpush (bre _) _⟩
end Go.Proofs.YtkbecgcbheopnaaGreat
