/- ReadB, Short, RShort, Mb. -/
import Derived.Test.YtdkedgedkgabnaaGreatDoorX1
namespace Go.Proofs.YtdkedgedkgabnaaGreatDoor
open Go.RowKit Go.ChangeMaps
set_option maxHeartbeats 16000000
set_option maxRecDepth 100000
theorem implRead_any (s:ByteArray) (a:Nat) (w:World) (hs:s.size≤1048576) (ha:a≤s.size) :
  Calls Tryz.prog 126 #[.string s,.int .i64 a] w fun e w'=>RvEnd (rv 5 (s.data.toList.drop a) 0 0) a e∧Below w.heap.size w w':=by
 go_enter Tryz.func126,Tryz.ntmps126
 go_wp2_with fail
 go_loopw [7,8] (fun nv iv wr=>∃ (k n:Nat),k≤5∧nv=.int .i64 n∧iv=.int .i64 (k:Int)∧RvAt s a k n∧Below w.heap.size w wr) (fun _ iv _=>5 - (intOf iv).toNat)
 case atStart=>exact ⟨0,0,by omega,rfl,rfl,RvAt.start s a ha,Below.refl _ _⟩
 case round =>
  obtain ⟨k,n,hk,rfl,rfl,hR,hb⟩:=hrel;have hj:=hR.1;have hnb:=hR.lt;have HR:Hid (RvAt s a k n):=hR;clear hR
  by_cases hlt:a+k<s.size
  ·by_cases h5:k<5
   ·obtain ⟨c,hcx⟩:∃ c:Nat,s[a+k].toNat=c:=⟨_,rfl⟩
    have hcb:c<256:=by rw [← hcx];exact s[a+k].toNat_lt
    have HC:Hid (s[a+k].toNat=c):=hcx;obtain ⟨m,hm⟩:∃ m:Nat,n+c % 128*128 ^ k=m:=⟨_,rfl⟩
    have HM:Hid (n+s[a+k].toNat % 128*128 ^ k=m):=by show _=_;rw [HC.out];exact hm
    have hI:(0:Int)≤(a:Int)+(k:Int)∧(a:Int)+(k:Int)<(s.size:Int):=by omega
    have hk':k=0∨k=1∨k=2∨k=3∨k=4:=by omega
    clear hk
    rcases hk' with rfl | rfl | rfl | rfl | rfl
    all_goals
     try simp only [Nat.add_zero] at hcx
     simp only [Int.cast_ofNat_Int,Int.add_zero] at hI;simp only [Nat.reducePow,Nat.mul_one] at hm hnb
     have hmb:m≤68450000000:=by omega
     have HM2:=hide hm;clear hm
     by_cases hc:c<128
     ·go_wp2_with fail
      all_goals
       go_ret3
       have hm:=unhide HM2
       first
        | exact ⟨RvEnd.no (HR.out.big (by decide) hlt HM.out (by rw [HC.out];omega) (by rw [HC.out];omega)),hb⟩
        | exact ⟨RvEnd.yes (HR.out.good (by decide) hlt HM.out (by rw [HC.out];omega) (by rw [HC.out];omega)) (by omega) (by omega),hb⟩
     go_wp2_with fail
     go_roundw
     case rel =>
      refine ⟨_,m,?h1,?h2,?h3,HR.out.next (by decide) hlt HM.out (by rw [HC.out];exact hc),hb⟩
      case h1=>decide
      case h2=>have hm:=unhide HM2;go_num
      case h3=>rfl
     case measure=>simp [intOf]
   go_wp2_with fail
   go_ret3
   exact ⟨RvEnd.no (HR.out.out (by omega)),hb⟩
  by_cases h5:k<5
  all_goals
   go_wp2_with fail
   go_ret3
   exact ⟨RvEnd.no (HR.out.out (by omega)),hb⟩
theorem implRead_no (s:ByteArray) (a:Int) (w:World) (ha:a<0∨s.size<a) :
  Calls Tryz.prog 126 #[.string s,.int .i64 a] w fun e w'=>e=.returned (.tuple #[.int .i64 0,.int .i64 0,.bool false])∧w=w':=by
 rcases ha with ha | ha
 ·go_enter Tryz.func126,Tryz.ntmps126
  go_wp2
  go_ret3
  exact ⟨rfl,rfl⟩
 have h0:¬ a<0:=by omega
 go_enter Tryz.func126,Tryz.ntmps126
 go_wp2
 go_ret3
 exact ⟨rfl,rfl⟩
theorem implShort_yes (s:ByteArray) (w:World) (hs:s.size≤20000) :
  Calls Tryz.prog 47 #[.string s] w fun e w'=>e=.returned (.tuple #[.string (⟨(vbs s.size).toArray⟩++s),.bool true])∧Below w.heap.size w w':=by
 have hl:=vbs_len s.size
 go_enter Tryz.func47,Tryz.ntmps47
 go_wp2_with fail
 refine (implVar_any s.size _ (by omega)).mono ?_;rintro e w1 ⟨rfl,hb1⟩
 go_wp2
 go_ret2
 exact ⟨rfl,hb1⟩
theorem rv_some:∀ (f:Nat) (l:List UInt8) (k n m d:Nat),rv f l k n=some (m,d)→m≤1000000000∧d≤k+l.length
 | 0,_,_,_,_,_,h=>by simp [rv] at h
 | _+1,[],_,_,_,_,h=>by simp [rv] at h
 | f+1,c::l,k,n,m,d,h=>by
  by_cases hc:c.toNat<128
  ·by_cases h2:1000000000<n+c.toNat % 128*128 ^ k∨(c.toNat=0∧0<k)
   ·rw [rv_bad f k n c l hc h2] at h;simp at h
   rw [rv_good f k n c l hc h2] at h;simp only [Option.some.injEq,Prod.mk.injEq] at h;obtain ⟨rfl,rfl⟩:=h;simp only [List.length_cons]
   omega
  rw [rv_more f k n c l hc] at h;have:=rv_some f l _ _ m d h;simp only [List.length_cons]
  omega
theorem rv_place {s:ByteArray} {k n d:Nat} (hk:k≤s.size) (h:rv 5 (s.data.toList.drop k) 0 0=some (n,d)):n≤1000000000∧k+d≤s.size:=by
 have:=rv_some _ _ _ _ _ _ h;rw [List.length_drop,len_list] at this
 omega
theorem specRShort_no (s:ByteArray) (k:Int) (w:World) (hs:s.size≤1048576)
  (h:(k<0∨s.size<k)∨(0≤k∧k≤s.size∧rv 5 (s.data.toList.drop k.toNat) 0 0=none)) :
  Calls Tryz.prog 109 #[.string s,.int .i64 k] w fun e w'=>e=.returned (.tuple #[.string ⟨#[]⟩,.int .i64 0,.bool false])∧Below w.heap.size w w':=by
 rcases h with h | ⟨h0,h1,h2⟩
 ·go_enter Tryz.func109,Tryz.ntmps109
  go_wp2_with fail
  refine (specRead_no s k _ hs h).mono ?_;rintro e w1 ⟨rfl,rfl⟩
  go_wp2
  go_ret3
  exact ⟨rfl,Below.refl _ _⟩
 obtain ⟨a,rfl⟩:∃ a:Nat,k=a:=⟨k.toNat,by omega⟩;have HR:Hid (rv 5 (s.data.toList.drop a) 0 0=none):=h2;clear h2
 go_enter Tryz.func109,Tryz.ntmps109
 go_wp2_with fail
 refine (specRead_any s a _ hs (by omega)).mono ?_;rintro e w1 ⟨he,hb1⟩;rw [HR.out] at he;obtain rfl:e=.returned (.tuple #[.int .i64 0,.int .i64 0,.bool false]):=he
 go_wp2
 go_ret3
 exact ⟨rfl,hb1⟩
theorem implRShort_no (s:ByteArray) (k:Int) (w:World) (hs:s.size≤1048576)
  (h:(k<0∨s.size<k)∨(0≤k∧k≤s.size∧rv 5 (s.data.toList.drop k.toNat) 0 0=none)) :
  Calls Tryz.prog 143 #[.string s,.int .i64 k] w fun e w'=>e=.returned (.tuple #[.string ⟨#[]⟩,.int .i64 0,.bool false])∧Below w.heap.size w w':=by
 rcases h with h | ⟨h0,h1,h2⟩
 ·go_enter Tryz.func143,Tryz.ntmps143
  go_wp2_with fail
  refine (implRead_no s k _ h).mono ?_;rintro e w1 ⟨rfl,rfl⟩
  go_wp2
  go_ret3
  exact ⟨rfl,Below.refl _ _⟩
 obtain ⟨a,rfl⟩:∃ a:Nat,k=a:=⟨k.toNat,by omega⟩;have HR:Hid (rv 5 (s.data.toList.drop a) 0 0=none):=h2;clear h2
 go_enter Tryz.func143,Tryz.ntmps143
 go_wp2_with fail
 refine (implRead_any s a _ hs (by omega)).mono ?_;rintro e w1 ⟨he,hb1⟩;rw [HR.out] at he;obtain rfl:e=.returned (.tuple #[.int .i64 0,.int .i64 0,.bool false]):=he
 go_wp2
 go_ret3
 exact ⟨rfl,hb1⟩
theorem specRShort_bad (s:ByteArray) (a n d:Nat) (w:World) (hs:s.size≤1048576) (ha:a≤s.size) (hr:rv 5 (s.data.toList.drop a) 0 0=some (n,d)) (hbad:20000<n∨s.size<a+d+n) :
  Calls Tryz.prog 109 #[.string s,.int .i64 a] w fun e w'=>e=.returned (.tuple #[.string ⟨#[]⟩,.int .i64 0,.bool false])∧Below w.heap.size w w':=by
 have hp:=rv_place ha hr;have HR:Hid (rv 5 (s.data.toList.drop a) 0 0=some (n,d)):=hr;clear hr
 by_cases h2:20000<n
 ·clear hbad
  go_enter Tryz.func109,Tryz.ntmps109
  go_wp2_with fail
  refine (specRead_any s a _ hs ha).mono ?_;rintro e w1 ⟨he,hb1⟩;rw [HR.out] at he;obtain rfl:e=.returned (.tuple #[.int .i64 n,.int .i64 (a+d:Nat),.bool true]):=he
  go_wp2
  go_ret3
  exact ⟨rfl,hb1⟩
 have h3:s.size<a+d+n:=by omega
 clear hbad
 go_enter Tryz.func109,Tryz.ntmps109
 go_wp2_with fail
 refine (specRead_any s a _ hs ha).mono ?_;rintro e w1 ⟨he,hb1⟩;rw [HR.out] at he;obtain rfl:e=.returned (.tuple #[.int .i64 n,.int .i64 (a+d:Nat),.bool true]):=he
 go_wp2
 go_ret3
 exact ⟨rfl,hb1⟩
theorem implRShort_bad (s:ByteArray) (a n d:Nat) (w:World) (hs:s.size≤1048576) (ha:a≤s.size) (hr:rv 5 (s.data.toList.drop a) 0 0=some (n,d)) (hbad:20000<n∨s.size<a+d+n) :
  Calls Tryz.prog 143 #[.string s,.int .i64 a] w fun e w'=>e=.returned (.tuple #[.string ⟨#[]⟩,.int .i64 0,.bool false])∧Below w.heap.size w w':=by
 have hp:=rv_place ha hr;have HR:Hid (rv 5 (s.data.toList.drop a) 0 0=some (n,d)):=hr;clear hr
 by_cases h2:20000<n
 ·clear hbad
  go_enter Tryz.func143,Tryz.ntmps143
  go_wp2_with fail
  refine (implRead_any s a _ hs ha).mono ?_;rintro e w1 ⟨he,hb1⟩;rw [HR.out] at he;obtain rfl:e=.returned (.tuple #[.int .i64 n,.int .i64 (a+d:Nat),.bool true]):=he
  go_wp2
  go_ret3
  exact ⟨rfl,hb1⟩
 have h3:s.size<a+d+n:=by omega
 clear hbad
 go_enter Tryz.func143,Tryz.ntmps143
 go_wp2_with fail
 refine (implRead_any s a _ hs ha).mono ?_;rintro e w1 ⟨he,hb1⟩;rw [HR.out] at he;obtain rfl:e=.returned (.tuple #[.int .i64 n,.int .i64 (a+d:Nat),.bool true]):=he
 go_wp2
 go_ret3
 exact ⟨rfl,hb1⟩
theorem specRShort_yes (s:ByteArray) (a n d:Nat) (w:World) (hs:s.size≤1048576) (ha:a≤s.size) (hr:rv 5 (s.data.toList.drop a) 0 0=some (n,d)) (h2:n≤20000) (h3:a+d+n≤s.size) :
  Calls Tryz.prog 109 #[.string s,.int .i64 a] w fun e w'=>e=.returned (.tuple #[.string (s.extract (a+d) (a+d+n)),.int .i64 (a+d+n:Nat),.bool true])∧Below w.heap.size w w':=by
 have HR:Hid (rv 5 (s.data.toList.drop a) 0 0=some (n,d)):=hr;clear hr
 go_enter Tryz.func109,Tryz.ntmps109
 go_wp2_with fail
 refine (specRead_any s a _ hs ha).mono ?_;rintro e w1 ⟨he,hb1⟩;rw [HR.out] at he;obtain rfl:e=.returned (.tuple #[.int .i64 n,.int .i64 (a+d:Nat),.bool true]):=he
 go_wp2
 go_ret3
 exact ⟨rfl,hb1⟩
theorem implRShort_yes (s:ByteArray) (a n d:Nat) (w:World) (hs:s.size≤1048576) (ha:a≤s.size) (hr:rv 5 (s.data.toList.drop a) 0 0=some (n,d)) (h2:n≤20000) (h3:a+d+n≤s.size) :
  Calls Tryz.prog 143 #[.string s,.int .i64 a] w fun e w'=>e=.returned (.tuple #[.string (s.extract (a+d) (a+d+n)),.int .i64 (a+d+n:Nat),.bool true])∧Below w.heap.size w w':=by
 have HR:Hid (rv 5 (s.data.toList.drop a) 0 0=some (n,d)):=hr
 have hsz:(s.extract (a+d) (a+d+n)).size≤1048576:=by rw [ByteArray.size_extract];omega
 clear hr
 go_enter Tryz.func143,Tryz.ntmps143
 go_wp2_with fail
 refine (implRead_any s a _ hs ha).mono ?_;rintro e w1 ⟨he,hb1⟩;rw [HR.out] at he;obtain rfl:e=.returned (.tuple #[.int .i64 n,.int .i64 (a+d:Nat),.bool true]):=he
 go_wp2_with fail
 refine (clone_any _ _ hsz).mono ?_;rintro e w2 ⟨rfl,hb2⟩
 go_wp2
 go_ret3
 exact ⟨rfl,hb1.trans (hb2.mono hb1.size)⟩
def Cur (w:World) (cb:Nat) (ao:Option Addr) (n cap:Nat):Prop :=
 ∃ (i:Nat) (h:Int),i≤n∧w.heap[cb]?=some (.cells #[.slice ao n cap,.int .i64 (i:Int),.int .i64 h] 101 (0,0))
def Code (w:World) (cb:Nat) (ao:Option Addr) (n:Nat):Prop :=
 0<n→∃ b off,ao=some ⟨b,off,none⟩∧b<cb∧∀ j,j<n→∃ z:Nat,z<256∧w.cell? ⟨b,off+j,none⟩=some (.int .u8 (z:Int))
theorem Code.later {w w':World} {cb n:Nat} {ao:Option Addr} (h:Code w cb ao n) (hb:w.grownBy w' (some cb)):Code w' cb ao n:=by
 intro hn;obtain ⟨b,off,h1,h2,h3⟩:=h hn;refine ⟨b,off,h1,h2,fun j hj=>?_⟩;obtain ⟨z,hz,hc⟩:=h3 j hj;exact ⟨z,hz,hb.cell hc (by simp;omega)⟩
theorem Cur.alloc {w:World} {cb n cap:Nat} {ao:Option Addr} (h:Cur w cb ao n cap) (o:Obj):Cur (w.alloc o) cb ao n cap:=by
 obtain ⟨i,x,h1,h2⟩:=h;exact ⟨i,x,h1,by rw [Below.heap_alloc w o cb (Array.getElem?_eq_some_iff.1 h2).1];exact h2⟩
theorem Cur.lt {w:World} {cb n cap:Nat} {ao:Option Addr} (h:Cur w cb ao n cap):cb<w.heap.size:=by
 obtain ⟨i,x,h1,h2⟩:=h;exact (Array.getElem?_eq_some_iff.1 h2).1
theorem only_set {w:World} {cb o:Nat} {u:Value}:w.grownBy (w.setCell ⟨cb,o,none⟩ u) (some cb) :=
 ⟨rfl,rfl,rfl,by simp [World.setCell],fun k _ hk=>heap_setCell_other w ⟨cb,o,none⟩ k u (fun e=>hk (by simp [e]))⟩
theorem only_trans {a b c:World} {r:Option Nat} (h:a.grownBy b r) (k:b.grownBy c r):a.grownBy c r :=
 ⟨k.os.trans h.os,k.tape.trans h.tape,k.output.trans h.output,Nat.le_trans h.size k.size,fun i hi hr=>(k.block i (Nat.lt_of_lt_of_le hi h.size) hr).trans (h.block i hi hr)⟩
theorem only_below {w w':World} {cb B:Nat} (h:w.grownBy w' (some cb)) (hB:B≤cb) (hs:B≤w.heap.size):Below B w w' :=
 ⟨h.os,h.tape,h.output,h.size,fun k hk=>h.block k (by omega) (by simp;omega)⟩
theorem i64_and255 (n:Int):bits .and .i64 n 255=n % 256:=by
 have h255:(BitVec.ofInt 64 255).toNat=2 ^ 8 - 1:=by decide
 have key:(BitVec.ofInt 64 n &&& BitVec.ofInt 64 255).toNat=(n % ((2 ^ 64:Nat):Int)).toNat % 2 ^ 8:=by
  rw [BitVec.toNat_and,BitVec.toNat_ofInt,h255,Nat.and_two_pow_sub_one_eq_mod]
 show IntKind.i64.wrap ((BitVec.ofInt 64 n &&& BitVec.ofInt 64 255).toNat:Nat)=n % 256
 rw [key,IntKind.wrap_i64]
 omega
theorem and255 (n:Int):∃ x:Nat,x<256∧bits .and .i64 n 255=(x:Int):=⟨(n % 256).toNat,by omega,by rw [i64_and255];omega⟩
theorem byte_any (cb:Nat) (ao:Option Addr) (n cap:Nat) (w:World) (hn:n≤1048576) (hcur:Cur w cb ao n cap) (hcode:Code w cb ao n) :
  Calls Tryz.prog 87 #[.pointer (some ⟨cb,0,none⟩)] w fun e w'=>∃ x:Nat,x<256∧e=.returned (.int .i64 (x:Int))∧Cur w' cb ao n cap∧w.grownBy w' (some cb):=by
 obtain ⟨i,h,hi,hblk⟩:=hcur;have c0:=cell_of_row w cb 0 _ _ _ hblk;have c1:=cell_of_row w cb 1 _ _ _ hblk;have c2:=cell_of_row w cb 2 _ _ _ hblk;have f1:=frozen_of_row w cb 1 _ _ hblk;have f2:=frozen_of_row w cb 2 _ _ hblk
 simp at c0 c1 c2
 have HBLK:=hide hblk;have HCODE:=hide hcode;clear hblk hcode
 by_cases hlt:i<n
 ·obtain ⟨b,off,hao,hbc,hz⟩:=unhide HCODE (by omega)
  obtain ⟨z,hzb,hcz⟩:=hz i hlt;subst hao
  have hI:(0:Int)≤(i:Int)∧(i:Int)<(n:Int):=by omega
  clear hz
  go_enter Tryz.func87,Tryz.ntmps87
  go_wp2_with fail
  generalize wrap64 (wrap64 (h*6364136223846793005)+1442695040888963407)=h1
  obtain ⟨w1,hw1⟩:∃ w1,w.setCell ⟨cb,2,none⟩ (.int .i64 h1)=w1:=⟨_,rfl⟩
  have hblk1:w1.heap[cb]?=some (.cells #[.slice (some ⟨b,off,none⟩) n cap,.int .i64 (i:Int),.int .i64 h1] 101 (0,0)):=by
   rw [← hw1];exact heap_setCell_same w cb 2 _ _ _ (unhide HBLK)
  have hbel:w.grownBy w1 (some cb):=by rw [← hw1];exact only_set
  rw [hw1];have d0:=cell_of_row w1 cb 0 _ _ _ hblk1;have d1:=cell_of_row w1 cb 1 _ _ _ hblk1;have d2:=cell_of_row w1 cb 2 _ _ _ hblk1;have g1:=frozen_of_row w1 cb 1 _ _ hblk1
  simp at d0 d1 d2
  have dz:w1.cell? ⟨b,off+i,none⟩=some (.int .u8 (z:Int)):=hbel.cell hcz (by simp;omega);have HBLK1:=hide hblk1;have HBEL:=hide hbel;clear hblk1 hbel hw1 c0 c1 c2 f1 f2 hcz HBLK HCODE
  go_quiet (fail)
  obtain ⟨x0,hx0,hx0e⟩:=and255 (bits BinOp.xor IntKind.i64 (h1 / 8589934592) (h1 / 35184372088832));rw [hx0e]
  go_wp2_with fail
  go_quiet (fail)
  go_wp2_with fail
  go_quiet (fail)
  go_wp2_with fail
  obtain ⟨x1,hx1,hx1e⟩:=and255 ((x0:Int)+(z:Int));go_ret
  refine ⟨x1,hx1,ret_int hx1e,⟨i+1,h1,hlt,?_⟩,?_⟩
  ·rw [show (((i+1:Nat)):Int)=(i:Int)+1 from by omega]
   exact heap_setCell_same _ cb 1 _ _ _ (unhide HBLK1)
  refine only_trans (b:=w1.drewN 0) ⟨(unhide HBEL).os,(unhide HBEL).tape,(unhide HBEL).output,(unhide HBEL).size,(unhide HBEL).block⟩ ?_;exact ⟨rfl,rfl,rfl,by simp [World.setCell],fun k _ hk=>heap_setCell_other w1 ⟨cb,1,none⟩ k _ (fun e=>hk (by simp [e]))⟩
 go_enter Tryz.func87,Tryz.ntmps87
 go_wp2_with fail
 generalize wrap64 (wrap64 (h*6364136223846793005)+1442695040888963407)=h1
 obtain ⟨w1,hw1⟩:∃ w1,w.setCell ⟨cb,2,none⟩ (.int .i64 h1)=w1:=⟨_,rfl⟩
 have hblk1:w1.heap[cb]?=some (.cells #[.slice ao n cap,.int .i64 (i:Int),.int .i64 h1] 101 (0,0)):=by
  rw [← hw1];exact heap_setCell_same w cb 2 _ _ _ (unhide HBLK)
 have hbel:w.grownBy w1 (some cb):=by rw [← hw1];exact only_set
 rw [hw1];have d0:=cell_of_row w1 cb 0 _ _ _ hblk1;have d1:=cell_of_row w1 cb 1 _ _ _ hblk1;have d2:=cell_of_row w1 cb 2 _ _ _ hblk1
 simp at d0 d1 d2
 have HBLK1:=hide hblk1;have HBEL:=hide hbel;clear hblk1 hbel hw1 c0 c1 c2 f1 f2 HBLK HCODE
 go_quiet (fail)
 obtain ⟨x0,hx0,hx0e⟩:=and255 (bits BinOp.xor IntKind.i64 (h1 / 8589934592) (h1 / 35184372088832));rw [hx0e]
 go_wp2_with fail
 go_quiet (fail)
 go_wp2_with fail
 go_ret
 exact ⟨x0,hx0,rfl,⟨i,h1,hi,unhide HBLK1⟩,⟨(unhide HBEL).os,(unhide HBEL).tape,(unhide HBEL).output,(unhide HBEL).size,(unhide HBEL).block⟩⟩
theorem below_any (cb:Nat) (ao:Option Addr) (n cap m:Nat) (w:World) (hn:n≤1048576) (hcur:Cur w cb ao n cap) (hcode:Code w cb ao n) (hm:0<m) (hm2:m≤4294967296) :
  Calls Tryz.prog 38 #[.pointer (some ⟨cb,0,none⟩),.int .i64 (m:Int)] w fun e w'=>∃ x:Nat,x<m∧e=.returned (.int .i64 (x:Int))∧Cur w' cb ao n cap∧w.grownBy w' (some cb):=by
 have HC:=hide hcur;have HO:=hide hcode;clear hcur hcode
 have hm0:¬ (m:Int)=0:=by omega
 by_cases h2:m≤256
 ·go_enter Tryz.func38,Tryz.ntmps38
  go_wp2_with fail
  refine (byte_any cb ao n cap _ hn (unhide HC) (unhide HO)).mono ?_;rintro e w1 ⟨x,hx,rfl,hc1,hb1⟩;have HC1:=hide hc1;clear hc1
  go_wp2
  go_ret
  exact ⟨x % m,Nat.mod_lt _ hm,ret_int (by simp),unhide HC1,hb1⟩
 go_enter Tryz.func38,Tryz.ntmps38
 go_wp2_with fail
 refine (byte_any cb ao n cap _ hn (unhide HC) (unhide HO)).mono ?_;rintro e w1 ⟨x,hx,rfl,hc1,hb1⟩;have HC1:=hide hc1;clear hc1
 go_wp2_with fail
 refine (byte_any cb ao n cap _ hn (unhide HC1) ((unhide HO).later hb1)).mono ?_;rintro e w2 ⟨y,hy,rfl,hc2,hb2⟩;have HC2:=hide hc2;have hb12:=only_trans hb1 hb2;clear hc2
 go_wp2_with fail
 refine (byte_any cb ao n cap _ hn (unhide HC2) ((unhide HO).later hb12)).mono ?_;rintro e w3 ⟨z,hz,rfl,hc3,hb3⟩;have HC3:=hide hc3;have hb13:=only_trans hb12 hb3;clear hc3
 go_wp2_with fail
 refine (byte_any cb ao n cap _ hn (unhide HC3) ((unhide HO).later hb13)).mono ?_;rintro e w4 ⟨v,hv,rfl,hc4,hb4⟩;have HC4:=hide hc4;have hb14:=only_trans hb13 hb4;clear hc4
 go_wp2
 go_ret
 exact ⟨(x*16777216+y*65536+z*256+v) % m,Nat.mod_lt _ hm,ret_int (by simp),unhide HC4,hb14⟩
theorem below4 (cb:Nat) (ao:Option Addr) (n cap:Nat) (w:World) (hn:n≤1048576) (hcur:Cur w cb ao n cap) (hcode:Code w cb ao n) (m:Int) (hm:0<m) (hm2:m≤4294967296) :
  Calls Tryz.prog 38 #[.pointer (some ⟨cb,0,none⟩),.int .i64 m] w fun e w'=>∃ x:Nat,(x:Int)<m∧e=.returned (.int .i64 (x:Int))∧Cur w' cb ao n cap∧w.grownBy w' (some cb):=by
 obtain ⟨k,rfl⟩:∃ k:Nat,m=k:=⟨m.toNat,by omega⟩;refine (below_any cb ao n cap k w hn hcur hcode (by omega) (by omega)).mono ?_;rintro e w' ⟨x,h1,h2,h3,h4⟩;exact ⟨x,by omega,h2,h3,h4⟩
theorem once_any (cb:Nat) (ao:Option Addr) (n cap:Nat) (w:World) (hn:n≤1048576) (hcur:Cur w cb ao n cap) (hcode:Code w cb ao n) (m:Int) (hm:0<m) (hm2:m≤4294967296) :
  Calls Tryz.prog 55 #[.pointer (some ⟨cb,0,none⟩),.int .i64 m] w fun e w'=>∃ t:Bool,e=.returned (.bool t)∧Cur w' cb ao n cap∧w.grownBy w' (some cb):=by
 have HC:=hide hcur;have HO:=hide hcode;clear hcur hcode
 go_enter Tryz.func55,Tryz.ntmps55
 go_wp2_with fail
 refine (below4 cb ao n cap _ hn (unhide HC) (unhide HO) m hm hm2).mono ?_;rintro e w1 ⟨x,hx,rfl,hc1,hb1⟩;have HC1:=hide hc1;clear hc1
 go_wp2
 go_ret
 exact ⟨_,rfl,unhide HC1,hb1⟩
theorem pickInt_any (cb g k:Nat) (zs:List Int) (ao:Option Addr) (n cap:Nat) (w:World) (hn:n≤1048576) (hcur:Cur w cb ao n cap) (hcode:Code w cb ao n) (hk:zs.length=k) (hk0:0<k) (hk2:k≤1000) (hg:g≠cb)
  (hcell:∀ i (h:i<zs.length),w.cell? ⟨g,i,none⟩=some (.int .i64 zs[i])) :
  Calls Tryz.prog 138 #[.pointer (some ⟨cb,0,none⟩),.slice (some ⟨g,0,none⟩) k k] w fun e w'=>∃ x:Int,x∈zs∧e=.returned (.int .i64 x)∧Cur w' cb ao n cap∧w.grownBy w' (some cb):=by
 have HC:=hide hcur;have HO:=hide hcode;have HK:=hide hk;have HCELL:=hide hcell;clear hcur hcode hk hcell
 go_enter Tryz.func138,Tryz.ntmps138
 go_wp2_with fail
 refine (below4 cb ao n cap _ hn (unhide HC) (unhide HO) k (by omega) (by omega)).mono ?_;rintro e w1 ⟨x,hx,rfl,hc1,hb1⟩
 have hxl:x<zs.length:=by rw [unhide HK];omega
 obtain ⟨y,hy⟩:∃ y,zs[x]=y:=⟨_,rfl⟩;have hc:w1.cell? ⟨g,x,none⟩=some (.int .i64 y):=hb1.cell (by rw [← hy];exact unhide HCELL x hxl) (by simp;omega);have HY:=hide hy;have HC1:=hide hc1
 have hI:(0:Int)≤(x:Int)∧(x:Int)<(k:Int):=by omega
 clear hc1 hy
 go_wp2
 go_ret
 exact ⟨y,by rw [← unhide HY];exact List.getElem_mem _,rfl,unhide HC1,hb1⟩
theorem new_any (ao:Option Addr) (n cap:Nat) (w:World) (hn:n≤1048576) (hcode:Code w w.heap.size ao n) :
  Calls Tryz.prog 27 #[.slice ao n cap] w fun e w'=>e=.returned (.pointer (some ⟨w.heap.size,0,none⟩))∧Cur w' w.heap.size ao n cap∧Code w' w.heap.size ao n∧Below w.heap.size w w':=by
 have HO:=hide hcode;clear hcode
 go_enter Tryz.func27,Tryz.ntmps27
 go_wp2
 go_loop [3,4] (fun hv iv=>∃ (h:Int) (i:Nat),i≤n∧hv=.int .i64 h∧iv=.int .i64 (i:Int)) (fun _ iv=>n - (intOf iv).toNat)
 case atStart=>exact ⟨_,0,Nat.zero_le _,rfl,rfl⟩
 case round =>
  obtain ⟨h,i,hi,rfl,rfl⟩:=hrel
  by_cases hlt:i<n
  ·by_cases h4:i<4000
   ·obtain ⟨b,off,hao,hbc,hz⟩:=unhide HO (by omega)
    obtain ⟨z,hzb,hcz⟩:=hz i hlt;subst hao
    have hI:(0:Int)≤(i:Int)∧(i:Int)<(n:Int):=by omega
    clear hz
    go_wp2
    go_round
    case rel=>exact ⟨_,i+1,by omega,rfl,by go_num⟩
    case measure=>simp [intOf];omega
   go_wp2
   go_ret
   refine ⟨rfl,⟨0,h,Nat.zero_le _,heap_alloc_new w _⟩,(unhide HO).later (World.grownBy_alloc _ _ _),(Below.refl _ _).alloc (Nat.le_refl _) _⟩
  go_wp2
  go_ret
  refine ⟨rfl,⟨0,h,Nat.zero_le _,heap_alloc_new w _⟩,(unhide HO).later (World.grownBy_alloc _ _ _),(Below.refl _ _).alloc (Nat.le_refl _) _⟩
theorem only_add {w w1 w2:World} {cb:Nat} (h:w.grownBy w1 (some cb)) (k:Below w.heap.size w1 w2):w.grownBy w2 (some cb) :=
 ⟨k.os.trans h.os,k.tape.trans h.tape,k.output.trans h.output,Nat.le_trans h.size k.size,fun i hi hr=>(k.block i hi).trans (h.block i hi hr)⟩
theorem Cur.later {w1 w2:World} {B cb n cap:Nat} {ao:Option Addr} (h:Cur w1 cb ao n cap) (k:Below B w1 w2) (hB:cb<B):Cur w2 cb ao n cap:=by
 obtain ⟨i,x,h1,h2⟩:=h;exact ⟨i,x,h1,by rw [k.block cb hB];exact h2⟩
theorem text_any (cb:Nat) (ao:Option Addr) (n cap m:Nat) (w:World) (hn:n≤1048576) (hcur:Cur w cb ao n cap) (hcode:Code w cb ao n) (hm:m≤5000) :
  Calls Tryz.prog 91 #[.pointer (some ⟨cb,0,none⟩),.int .i64 (m:Int)] w fun e w'=>∃ bs:List UInt8,bs.length=m∧e=.returned (.string ⟨bs.toArray⟩)∧Cur w' cb ao n cap∧w.grownBy w' (some cb):=by
 have hcb:=hcur.lt;have HC:=hide hcur;have HO:=hide hcode;clear hcur hcode
 go_enter Tryz.func91,Tryz.ntmps91
 go_wp2
 go_loopw [5,6] (fun v iv wr=>∃ (k:Nat) (bs:List UInt8),k≤m∧bs.length=k∧iv=.int .i64 (k:Int)∧wr.ownsRow w.heap.size 5 1 v bs.length (bs.map bv)∧Cur wr cb ao n cap∧w.grownBy wr (some cb)) (fun _ iv _=>m - (intOf iv).toNat)
 case atStart=>exact ⟨0,[],Nat.zero_le _,rfl,rfl,World.ownsRow_made w #[] 0 (Nat.le_refl _) (by decide) rfl,(unhide HC).alloc _,World.grownBy_alloc _ _ _⟩
 case round =>
  obtain ⟨k,bs,hk,hbl,rfl,hown,hcu,hg⟩:=hrel;have HBL:=hide hbl;have HCU:=hide hcu;have HOWN:=hide hown;have HG:=hide hg;have hsz:=hg.size;clear hbl hcu hown hg
  by_cases hlt:k<m
  ·go_wp2_with fail
   refine (byte_any cb ao n cap _ hn (unhide HCU) ((unhide HO).later (unhide HG))).mono ?_;rintro e w1 ⟨x,hx,rfl,hc1,hb1⟩
   have hown1:w1.ownsRow w.heap.size 5 1 _ bs.length (bs.map bv):=(unhide HOWN).kept hb1 (by
     cases hv:Value.ownBlock _ with
     | none=>left;rfl
     | some b=>right;have:=((unhide HOWN).lt b hv).1;simp;omega)
   have HC1:=hide hc1;have hs1:=hb1.size
   have hxi:IntKind.u8.wrap (x:Int)=(x:Int):=by rw [IntKind.wrap_u8];omega
   clear hc1
   go_wp2_with (at_builtin;refine wpList_append_byte w1 rfl (.tmp 15) (.tmp 19) 22 rfl w.heap.size 5 Tryz.info5 Tryz.underlying22 _ bs (by rfl) hown1 _ (UInt8.ofNat x) ?c1 rfl (by have:=unhide HBL;omega) (by omega) ?_;rotate_right;intro v2 w2 hown2 hb2)
   case c1=>rw [u8_nat _ (by omega)]
   go_roundw
   case rel=>exact ⟨k+1,bs++[UInt8.ofNat x],hlt,by simp [unhide HBL],by go_num,hown2,(unhide HC1).later hb2 hcb,only_add (only_trans (unhide HG) hb1) hb2⟩
   case measure=>simp [intOf];omega
  have hcv:=run_string_own (P:=Tryz.prog) wr 22 9 5 Tryz.underlying22 Tryz.underlying5 Tryz.underlying9 _ (unhide HOWN)
  go_wp2
  go_ret
  exact ⟨bs,by have:=unhide HBL;omega,rfl,unhide HCU,unhide HG⟩
theorem long_any (m:Nat) (x:UInt8) (w:World) (hm:m≤1000000) :
  Calls Tryz.prog 137 #[.int .i64 (m:Int),.int .u8 (x.toNat:Int)] w fun e w'=>∃ bs:List UInt8,bs.length=m∧e=.returned (.string ⟨bs.toArray⟩)∧Below w.heap.size w w':=by
 obtain ⟨i0,hi,hz0,hz1,hz2⟩:=info_parts Tryz.info5
 have hmk:i0.bytes*m≤281474976710656:=by rw [hz2];omega
 go_enter Tryz.func137,Tryz.ntmps137
 go_wp2_with (at_make;refine wpList_make_full w rfl _ _ 22 rfl w.heap.size 5 i0 (.int .u8 0) 1 Tryz.underlying22 hi hz0 hz1 .i64 .i64 (m:Int) (m:Int) m (by rfl) (by rfl) rfl rfl hmk (by unfold maxLen;omega) (Nat.le_refl _) ?_;intro w0 hown0 hg0)
 clear hi hz0 hz1 hz2 hmk
 have hst:(madeCells (Value.int .u8 0).cells (m*1)).toList=(List.replicate m (0:UInt8)).map bv:=by
  have e:(Value.int .u8 0).cells=#[Value.int .u8 0]:=rfl
  apply List.ext_getElem?
  intro j;rw [e]
  by_cases hj:j<m
  ·simp [madeCells,hj,bv,Nat.mod_one]
  rw [List.getElem?_eq_none (by rw [Array.length_toList,size_madeCells];omega),List.getElem?_eq_none (by simp;omega)]
 rw [hst] at hown0;clear hst
 go_loopw [6] (fun iv wr=>∃ (k:Nat) (bs:List UInt8),k≤m∧bs.length=m∧iv=.int .i64 (k:Int)∧wr.ownsRow w.heap.size 5 1 (.slice (some ⟨w.heap.size,0,none⟩) m m) m (bs.map bv)∧Below w.heap.size w wr) (fun iv _=>m - (intOf iv).toNat)
 case atStart=>exact ⟨0,List.replicate m 0,Nat.zero_le _,by simp,rfl,hown0,(Below.refl _ _).grown hg0 (Nat.le_refl _) (by simp)⟩
 case round =>
  clear hown0 hg0;obtain ⟨k,bs,hk,hbl,rfl,hown,hb⟩:=hrel;have HBL:=hide hbl;have HOWN:=hide hown;clear hbl hown
  by_cases hlt:k<m
  ·have hkl:k<bs.length:=by rw [unhide HBL];exact hlt
   have hc:wr.cell? ⟨w.heap.size,k,none⟩=some (bv bs[k]):=by rw [(unhide HOWN).cellAt k (by omega),List.getElem?_map,List.getElem?_eq_getElem hkl];rfl
   obtain ⟨y,hy⟩:∃ y,bv bs[k]=.int .u8 y:=⟨_,rfl⟩;rw [hy] at hc;have hf:=(unhide HOWN).frozenAt k;have hst:=((unhide HOWN).stored k (bv x)).1;rw [← List.map_set] at hst;have HST:=hide hst;clear hst hy
   go_wp2
   go_roundw
   case rel=>exact ⟨k+1,bs.set k x,hlt,by simp [unhide HBL],by go_num,unhide HST,hb.setCell (p:=⟨w.heap.size,k,none⟩) (Nat.le_refl _) _⟩
   case measure=>simp [intOf];omega
  have hcv:=run_string_own (P:=Tryz.prog) wr 22 9 5 Tryz.underlying22 Tryz.underlying5 Tryz.underlying9 _ (unhide HOWN)
  go_wp2
  go_ret
  exact ⟨bs,unhide HBL,rfl,hb⟩
theorem Rg.kept {W W':World} {k ty cb:Nat} {v t b:Int} (h:Rg W k ty v t b) (hg:W.grownBy W' (some cb)) (hk:k≠cb):Rg W' k ty v t b:=(hg.block k h.lt (by simpa using hk)).trans h
theorem Sg.kept {W W':World} {k ty cb:Nat} {t b:Int} (h:Sg W k ty t b) (hg:W.grownBy W' (some cb)) (hk:k≠cb):Sg W' k ty t b:=(hg.block k h.lt (by simpa using hk)).trans h
theorem Sg.loose {W:World} {k ty:Nat} {t b:Int} (h:Sg W k ty t b):W.frozen? ⟨k,0,none⟩=false∧W.frozen? ⟨k,1,none⟩=false :=
 ⟨frozen_of_row W k 0 _ _ h,frozen_of_row W k 1 _ _ h⟩
theorem gset {w w2:World} {cb k:Nat} (h:w.grownBy w2 (some cb)) (hk:w.heap.size≤k) (o:Nat) (u:Value):w.grownBy (w2.setCell ⟨k,o,none⟩ u) (some cb) :=
 ⟨h.os,h.tape,h.output,by simp [World.setCell];exact h.size,fun i hi hr=>by rw [Below.heap_setCell _ _ _ _ (show i≠k by omega)];exact h.block i hi hr⟩
theorem gal {w w2:World} {cb:Nat} (h:w.grownBy w2 (some cb)) (o:Obj):w.grownBy (w2.alloc o) (some cb):=only_trans h (World.grownBy_alloc _ _ _)
theorem gre (w:World) (cb:Nat):w.grownBy w (some cb):=⟨rfl,rfl,rfl,Nat.le_refl _,fun _ _ _=>rfl⟩
theorem gdr {w w2:World} {cb:Nat} (h:w.grownBy w2 (some cb)):w.grownBy w2.drew (some cb):=⟨h.os,h.tape,h.output,h.size,h.block⟩
theorem Cur.set {w:World} {cb n cap k o:Nat} {ao:Option Addr} {u:Value} (h:Cur w cb ao n cap) (hk:k≠cb):Cur (w.setCell ⟨k,o,none⟩ u) cb ao n cap:=by
 obtain ⟨i,x,h1,h2⟩:=h;exact ⟨i,x,h1,by rw [Below.heap_setCell _ _ _ _ (fun e=>hk e.symm)];exact h2⟩
theorem Sg.other {W:World} {k ty g o:Nat} {t b:Int} {u:Value} (h:Sg W k ty t b) (hk:k≠g):Sg (W.setCell ⟨g,o,none⟩ u) k ty t b:=(heap_setCell_other W ⟨g,o,none⟩ k u hk).trans h
theorem Rg.other {W:World} {k ty g o:Nat} {v t b:Int} {u:Value} (h:Rg W k ty v t b) (hk:k≠g):Rg (W.setCell ⟨g,o,none⟩ u) k ty v t b:=(heap_setCell_other W ⟨g,o,none⟩ k u hk).trans h
theorem Cur.drew {w:World} {cb n cap:Nat} {ao:Option Addr} (h:Cur w cb ao n cap):Cur w.drew cb ao n cap:=h
theorem l03Stamp_any (cb:Nat) (ao:Option Addr) (n cap:Nat) (w:World) (hn:n≤1048576) (hcur:Cur w cb ao n cap) (hcode:Code w cb ao n) :
  Calls Tryz.prog 129 #[.pointer (some ⟨cb,0,none⟩)] w fun e w'=>∃ t b:Int,(0≤t∧t<12∧1≤b∧b≤2)∧e=.returned (.agg #[.int .i64 t,.int .i64 b])∧Cur w' cb ao n cap∧w.grownBy w' (some cb):=by
 have hlt:=hcur.lt;obtain ⟨W0,hW0⟩:∃ W0,w.alloc (.cells #[.int .i64 0,.int .i64 0] 35)=W0:=⟨_,rfl⟩
 have A0:Hid (Sg W0 w.heap.size 35 0 0):=by subst hW0;exact Sg.new w 35 0 0
 have HC:Hid (Cur W0 cb ao n cap):=by subst hW0;exact hcur.alloc _
 have HO:Hid (Code W0 cb ao n):=by subst hW0;exact hcode.later (World.grownBy_alloc _ _ _)
 have G0:Hid (w.grownBy W0 (some cb)):=by subst hW0;exact World.grownBy_alloc _ _ _
 clear hcur hcode
 go_enter Tryz.func129,Tryz.ntmps129
 go_wp2_with fail
 clear hW0;refine (below4 cb ao n cap _ hn HC.out HO.out 12 (by omega) (by omega)).mono ?_;rintro e w1 ⟨x,hx,rfl,hc1,hb1⟩;have HC1:Hid (Cur w1 cb ao n cap):=hc1;have HO1:Hid (Code w1 cb ao n):=HO.out.later hb1;have G1:Hid (W0.grownBy w1 (some cb)):=hb1;clear hc1 hb1
 go_wp2_with fail
 refine (below4 cb ao n cap _ hn HC1.out HO1.out 2 (by omega) (by omega)).mono ?_;rintro e w2 ⟨y,hy,rfl,hc2,hb2⟩;have HC2:Hid (Cur w2 cb ao n cap):=hc2;have G2:Hid (W0.grownBy w2 (some cb)):=only_trans G1.out hb2;have A2:Hid (Sg w2 w.heap.size 35 0 0):=A0.out.kept G2.out (by omega);clear hc2 hb2;have d2:=A2.out.cells;have f2:=A2.out.loose
 go_wp2_with fail
 have c3:=(A2.out.set' (t':=x) (b':=1+y)).cells;exact bodyPost_ret (v:=stv x (1+y)) (by simp [results,Tryz.results129,go_sem,c3]) rfl ⟨x,1+y,by omega,rfl,(HC2.out.set (by omega)).set (by omega),gset (gset (only_trans G0.out G2.out) (Nat.le_refl _) _ _) (Nat.le_refl _) _ _⟩
theorem row3 (w:World) (x y z:Int) (i:Nat) (h:i<[x,y,z].length):(w.alloc (.cells #[.int .i64 x,.int .i64 y,.int .i64 z] 3)).cell? ⟨w.heap.size,i,none⟩=some (.int .i64 [x,y,z][i]):=by
 rw [cell_of_row _ w.heap.size i _ _ (0,0) (heap_alloc_new w _)];have hi:i<3:=h
 match i,hi with
 | 0,_=>rfl
 | 1,_=>rfl
 | 2,_=>rfl
theorem l03Any_any (cb:Nat) (ao:Option Addr) (n cap:Nat) (w:World) (hn:n≤1048576) (hcur:Cur w cb ao n cap) (hcode:Code w cb ao n) :
  Calls Tryz.prog 96 #[.pointer (some ⟨cb,0,none⟩)] w fun e w'=>∃ t b:Int,e=.returned (.agg #[.int .i64 t,.int .i64 b])∧Cur w' cb ao n cap∧w.grownBy w' (some cb):=by
 have hlt:=hcur.lt;obtain ⟨W0,hW0⟩:∃ W0,w.alloc (.cells #[.int .i64 0,.int .i64 0] 35)=W0:=⟨_,rfl⟩
 have A0:Hid (Sg W0 w.heap.size 35 0 0):=by subst hW0;exact Sg.new w 35 0 0
 have HC:Hid (Cur W0 cb ao n cap):=by subst hW0;exact hcur.alloc _
 have HO:Hid (Code W0 cb ao n):=by subst hW0;exact hcode.later (World.grownBy_alloc _ _ _)
 have G0:Hid (w.grownBy W0 (some cb)):=by subst hW0;exact World.grownBy_alloc _ _ _
 have hs0:w.heap.size<W0.heap.size:=A0.out.lt;clear hcur hcode
 go_enter Tryz.func96,Tryz.ntmps96
 go_wp2_with fail
 clear hW0;refine (l03Stamp_any cb ao n cap _ hn HC.out HO.out).mono ?_;rintro e w1 ⟨t,b,_,rfl,hc1,hb1⟩;have hs1:=hb1.size;obtain ⟨W2,hW2⟩:∃ W2,w1.alloc (.cells #[.int .i64 t,.int .i64 b] 35)=W2:=⟨_,rfl⟩
 have A2:Hid (Sg W2 w1.heap.size 35 t b):=by subst hW2;exact Sg.new w1 35 t b
 have G2:Hid (W0.grownBy W2 (some cb)):=by subst hW2;exact gal hb1 _
 have HC2:Hid (Cur W2 cb ao n cap):=by subst hW2;exact hc1.alloc _
 clear hc1 hb1
 go_wp2_with fail
 clear hW2;refine (below4 cb ao n cap _ hn HC2.out (HO.out.later G2.out) 8 (by omega) (by omega)).mono ?_;rintro e w3 ⟨x,hx,rfl,hc3,hb3⟩;have HC3:Hid (Cur w3 cb ao n cap):=hc3;have A3:Hid (Sg w3 w1.heap.size 35 t b):=A2.out.kept hb3 (by omega);have G3:Hid (W0.grownBy w3 (some cb)):=only_trans G2.out hb3;have A30:Hid (Sg w3 w.heap.size 35 0 0):=A0.out.kept G3.out (by omega);have HO3:Hid (Code w3 cb ao n):=HO.out.later G3.out;have hs3:W0.heap.size≤w3.heap.size:=G3.out.size
 have hne:¬ w1.heap.size=w.heap.size:=by omega
 have hne':¬ w.heap.size=w1.heap.size:=by omega
 clear hc3 hb3
 by_cases h0:x=0
 ·have h0':((x:Int) == 0)=true:=by simp;omega
  clear h0
  go_wp2_with fail
  refine (pickInt_any cb w3.heap.size 3 [-1,100000,100001] ao n cap _ hn (HC3.out.alloc _) (HO3.out.later (World.grownBy_alloc _ _ _)) rfl (by decide) (by decide) (by omega) (row3 w3 (-1) 100000 100001)).mono ?_;rintro e w5 ⟨y,_,rfl,hc5,hb5⟩;have G5:Hid (w3.grownBy w5 (some cb)):=only_trans (World.grownBy_alloc _ _ _) hb5;have HC5:Hid (Cur w5 cb ao n cap):=hc5;have A5:Hid (Sg w5 w1.heap.size 35 t b):=A3.out.kept G5.out (by omega);have A50:Hid (Sg w5 w.heap.size 35 0 0):=A30.out.kept G5.out (by omega);have d5:=A5.out.cells;have f5:=A5.out.loose;have d50:=A50.out.cells;have f50:=A50.out.loose;clear hc5 hb5
  go_wp2_with fail
  have c3:=((A50.out.other (g:=w1.heap.size) (o:=0) (u:=.int .i64 y) (by omega)).set' (t':=y) (b':=b)).cells;exact bodyPost_ret (v:=stv y b) (by simp [results,Tryz.results96,go_sem,c3]) rfl ⟨y,b,rfl,((HC5.out.set (by omega)).set (by omega)).set (by omega),gset (gset (gset (only_trans G0.out (only_trans G3.out G5.out)) (by omega) _ _) (Nat.le_refl _) _ _) (Nat.le_refl _) _ _⟩
 have h0':((x:Int) == 0)=false:=by simp;omega
 by_cases h1:x=1
 ·have h1':((x:Int) == 1)=true:=by simp;omega
  clear h0 h1
  go_wp2_with fail
  refine (pickInt_any cb w3.heap.size 3 [-1,0,3] ao n cap _ hn (HC3.out.alloc _) (HO3.out.later (World.grownBy_alloc _ _ _)) rfl (by decide) (by decide) (by omega) (row3 w3 (-1) 0 3)).mono ?_;rintro e w5 ⟨y,_,rfl,hc5,hb5⟩;have G5:Hid (w3.grownBy w5 (some cb)):=only_trans (World.grownBy_alloc _ _ _) hb5;have HC5:Hid (Cur w5 cb ao n cap):=hc5;have A5:Hid (Sg w5 w1.heap.size 35 t b):=A3.out.kept G5.out (by omega);have A50:Hid (Sg w5 w.heap.size 35 0 0):=A30.out.kept G5.out (by omega);have d5:=A5.out.cells;have f5:=A5.out.loose;have d50:=A50.out.cells;have f50:=A50.out.loose;clear hc5 hb5
  go_wp2_with fail
  have c3:=((A50.out.other (g:=w1.heap.size) (o:=1) (u:=.int .i64 y) (by omega)).set' (t':=t) (b':=y)).cells;exact bodyPost_ret (v:=stv t y) (by simp [results,Tryz.results96,go_sem,c3]) rfl ⟨t,y,rfl,((HC5.out.set (by omega)).set (by omega)).set (by omega),gset (gset (gset (only_trans G0.out (only_trans G3.out G5.out)) (by omega) _ _) (Nat.le_refl _) _ _) (Nat.le_refl _) _ _⟩
 have h1':((x:Int) == 1)=false:=by simp;omega
 clear h0 h1;have d5:=A3.out.cells;have f5:=A3.out.loose;have d50:=A30.out.cells;have f50:=A30.out.loose
 go_wp2_with fail
 have c3:=(A30.out.set' (t':=t) (b':=b)).cells;exact bodyPost_ret (v:=stv t b) (by simp [results,Tryz.results96,go_sem,c3]) rfl ⟨t,b,rfl,(HC3.out.set (by omega)).set (by omega),gset (gset (only_trans G0.out G3.out) (Nat.le_refl _) _ _) (Nat.le_refl _) _ _⟩
theorem row6 (w:World) (x y z x' y' z':Int) (i:Nat) (h:i<[x,y,z,x',y',z'].length):(w.alloc (.cells #[.int .i64 x,.int .i64 y,.int .i64 z,.int .i64 x',.int .i64 y',.int .i64 z'] 3)).cell? ⟨w.heap.size,i,none⟩=some (.int .i64 [x,y,z,x',y',z'][i]):=by
 rw [cell_of_row _ w.heap.size i _ _ (0,0) (heap_alloc_new w _)];have hi:i<6:=h
 match i,hi with
 | 0,_=>rfl
 | 1,_=>rfl
 | 2,_=>rfl
 | 3,_=>rfl
 | 4,_=>rfl
 | 5,_=>rfl
theorem l03Reg_any (cb:Nat) (ao:Option Addr) (n cap:Nat) (w:World) (hn:n≤1048576) (hcur:Cur w cb ao n cap) (hcode:Code w cb ao n) :
  Calls Tryz.prog 167 #[.pointer (some ⟨cb,0,none⟩)] w fun e w'=>∃ v t b:Int,e=.returned (.agg #[.int .i64 v,.int .i64 t,.int .i64 b])∧Cur w' cb ao n cap∧w.grownBy w' (some cb):=by
 have hlt:=hcur.lt;obtain ⟨W0,hW0⟩:∃ W0,w.alloc (.cells #[.int .i64 0,.int .i64 0,.int .i64 0] 126)=W0:=⟨_,rfl⟩
 have A0:Hid (Rg W0 w.heap.size 126 0 0 0):=by subst hW0;exact Rg.new w 126 0 0 0
 have HC:Hid (Cur W0 cb ao n cap):=by subst hW0;exact hcur.alloc _
 have HO:Hid (Code W0 cb ao n):=by subst hW0;exact hcode.later (World.grownBy_alloc _ _ _)
 have G0:Hid (w.grownBy W0 (some cb)):=by subst hW0;exact World.grownBy_alloc _ _ _
 have hs0:w.heap.size<W0.heap.size:=A0.out.lt;clear hcur hcode
 go_enter Tryz.func167,Tryz.ntmps167
 go_wp2_with fail
 clear hW0;refine (l03Any_any cb ao n cap _ hn HC.out HO.out).mono ?_;rintro e w1 ⟨t,b,rfl,hc1,hb1⟩;have hs1:=hb1.size;obtain ⟨W2,hW2⟩:∃ W2,w1.alloc (.cells #[.int .i64 t,.int .i64 b] 35)=W2:=⟨_,rfl⟩
 have A2:Hid (Sg W2 w1.heap.size 35 t b):=by subst hW2;exact Sg.new w1 35 t b
 have G2:Hid (W0.grownBy W2 (some cb)):=by subst hW2;exact gal hb1 _
 have HC2:Hid (Cur W2 cb ao n cap):=by subst hW2;exact hc1.alloc _
 have HO2:Hid (Code W2 cb ao n):=HO.out.later G2.out;have hs2:w1.heap.size<W2.heap.size:=A2.out.lt;clear hc1 hb1
 go_wp2_with fail
 clear hW2;have HS:Hid (∀ W,W2.grownBy W (some cb)→W.cell? ⟨w1.heap.size,0,none⟩=some (.int .i64 t)∧W.cell? ⟨w1.heap.size,1,none⟩=some (.int .i64 b)):=fun W h=>(A2.out.kept h (by omega)).cells;have A20:Hid (Rg W2 w.heap.size 126 0 0 0):=A0.out.kept G2.out (by omega)
 go_region_held3 (fun W=>W.cell? ⟨w1.heap.size,0,none⟩=some (.int .i64 t)∧W.cell? ⟨w1.heap.size,1,none⟩=some (.int .i64 b))
  ((first | (refine HS.out _ ?_;(repeat (first | exact gdr (gre _ _) | exact gre _ _ | refine gdr ?_ | refine gal ?_ _ | refine only_trans ?_ (by assumption)));done) | (refine ((((A2.out.kept (cb:=cb) ?_ (by omega)).other (by omega)).other (by omega)).other (by omega)).cells;repeat (first | exact gdr (gre _ _) | exact gre _ _ | refine gdr ?_ | refine gal ?_ _ | refine only_trans ?_ (by assumption)))))
  ((first
    | (go_at_call 138;refine (pickInt_any cb W2.heap.size 6 [0,1,1,7,-1,1000000001] ao n cap _ hn ((HC2.out.alloc _).drew) (HO2.out.later (gdr (World.grownBy_alloc _ _ _))) rfl (by decide) (by decide) (by omega) (row6 W2 0 1 1 7 (-1) 1000000001)).mono ?_;rintro e w5 ⟨y,_,rfl,hc5,hb5⟩;have R5:=A20.out.kept (only_trans (gdr (World.grownBy_alloc _ _ _)) hb5) (by omega);have d5:=R5.cells;have f5:=R5.loose)))
 have G5:Hid (W2.grownBy w5 (some cb)):=only_trans (gdr (World.grownBy_alloc _ _ _)) hb5;have c3:=(R5.set' (v':=y) (t':=t) (b':=b)).cells
 go_wp2_with fail
 exact bodyPost_ret (v:=rgv y t b) (by simp [results,Tryz.results167,go_sem,c3]) rfl ⟨y,t,b,rfl,((hc5.set (by omega)).set (by omega)).set (by omega),gset (gset (gset (only_trans G0.out (only_trans G2.out G5.out)) (Nat.le_refl _) _ _) (Nat.le_refl _) _ _) (Nat.le_refl _) _ _⟩
end Go.Proofs.YtdkedgedkgabnaaGreatDoor
