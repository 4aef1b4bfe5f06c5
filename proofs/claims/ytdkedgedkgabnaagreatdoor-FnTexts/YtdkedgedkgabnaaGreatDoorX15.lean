/- Sum, SpecSum, Four, Seal, SpecSeal, Mkz, Mk. -/
import Derived.Test.YtdkedgedkgabnaaGreatDoorX14
namespace Go.Proofs.YtdkedgedkgabnaaGreatDoor
open Go.RowKit Go.ChangeMaps
set_option maxHeartbeats 16000000
set_option maxRecDepth 100000
def Nib (w:World):Prop:=∀ i,i<16→w.cell? ⟨0,i,none⟩=some (.int .u32 (tabW.getD i 0:Nat))
theorem Nib.later {w w':World} {B:Nat} (h:Nib w) (hb:Below B w w') (hB:0<B):Nib w':=fun i hi=>by
 rw [hb.cell (p:=⟨0,i,none⟩) hB];exact h i hi
theorem tab_lt (i:Nat) (h:i<16):tabW.getD i 0<4294967296:=by
 have:∀ r:Fin 16,tabW.getD r.val 0<4294967296:=by decide
 exact this ⟨i,h⟩
theorem four_lt {x:Nat} (h:x<4294967296):four x<4294967296:=by
 have:=tab_lt (x % 16) (Nat.mod_lt _ (by omega));exact Nat.xor_lt_two_pow (n:=32) (by omega) (by omega)
theorem four_any (x:Nat) (w:World) (hx:x<4294967296) (hn:Nib w) :
  Calls Tryz.prog 186 #[.int .u32 (x:Int)] w fun e w'=>e=.returned (.int .u32 (four x:Nat))∧w=w':=by
 have hc:=hn (x % 16) (Nat.mod_lt _ (by omega));clear hn
 go_enter Tryz.func186,Tryz.ntmps186
 go_wp2
 go_ret
 exact ⟨ret_int (by rw [show (x:Int) / 16=((x / 16:Nat):Int) from by omega];exact u32_xor_nat _ _ (by omega) (tab_lt _ (Nat.mod_lt _ (by omega)))),rfl⟩
theorem smore_step (x:Nat) (s:ByteArray) (k:Nat) (h:k<s.size):smore x (s.data.toList.take (k+1))=st8 (smore x (s.data.toList.take k) ^^^ s[k].toNat):=by
 rw [List.take_succ_eq_append_getElem (by rw [Array.length_toList];exact h),smore_append];rfl
theorem more_any (x:Nat) (s:ByteArray) (w:World) (hx:x<4294967296) (hs:s.size≤1048577) (hn:Nib w) :
  Calls Tryz.prog 161 #[.int .u32 (x:Int),.string s] w fun e w'=>e=.returned (.int .u32 (smore x s.data.toList:Nat))∧w=w':=by
 have HN:=hide hn;clear hn
 go_enter Tryz.func161,Tryz.ntmps161
 go_wp2
 go_loop [0,8] (fun sv iv=>∃ (k y:Nat),k≤s.size∧y=smore x (s.data.toList.take k)∧sv=.int .u32 (y:Int)∧iv=.int .i64 (k:Int)) (fun _ iv=>s.size - (intOf iv).toNat)
 case atStart=>exact ⟨0,x,Nat.zero_le _,rfl,rfl,rfl⟩
 case round =>
  obtain ⟨k,y,hk,hy,rfl,rfl⟩:=hrel
  have hyl:y<4294967296:=by rw [hy];exact smore_lt _ hx
  have HY:=hide hy;clear hy
  by_cases hlt:k<s.size
  ·obtain ⟨c,hcx⟩:∃ c:Nat,s[k].toNat=c:=⟨_,rfl⟩
   have hcb:c<256:=by rw [← hcx];exact s[k].toNat_lt
   have HC:=hide hcx
   have hI:(0:Int)≤(k:Int)∧(k:Int)<(s.size:Int):=by omega
   obtain ⟨z,hz⟩:∃ z:Nat,y ^^^ c=z:=⟨_,rfl⟩
   have hzl:z<4294967296:=by rw [← hz];exact Nat.xor_lt_two_pow (n:=32) (by omega) (by omega)
   have hxr:bits .xor .u32 (y:Int) (c:Int)=(z:Int):=by rw [u32_xor_nat y c hyl (by omega),hz]
   have HZ:=hide hz;clear hz
   go_wp2_with fail
   refine (four_any z _ hzl (unhide HN)).mono ?_;rintro e w' ⟨rfl,rfl⟩
   go_wp2_with fail
   refine (four_any (four z) _ (four_lt hzl) (unhide HN)).mono ?_;rintro e w' ⟨rfl,rfl⟩
   go_wp2
   go_round
   case rel=>exact ⟨k+1,four (four z),by omega,by rw [smore_step x s k hlt,← unhide HY,unhide HC,unhide HZ,st8_four],rfl,by go_num⟩
   case measure=>simp [intOf];omega
  go_wp2
  go_ret
  exact ⟨ret_int (by rw [unhide HY,List.take_of_length_le (by rw [Array.length_toList];exact Nat.le_of_not_lt hlt)]),rfl⟩
theorem implMore_any (x:Nat) (s:ByteArray) (w:World) (hx:x<4294967296) (hs:s.size≤1048577) (hn:Nib w) :
  Calls Tryz.prog 123 #[.int .u32 (x:Int),.string s] w fun e w'=>e=.returned (.int .u32 (smore x s.data.toList:Nat))∧w=w':=by
 have HN:=hide hn;clear hn
 go_enter Tryz.func123,Tryz.ntmps123
 go_wp2_with fail
 refine (more_any x s _ hx hs (unhide HN)).mono ?_;rintro e w' ⟨rfl,rfl⟩
 go_wp2
 go_ret
 exact ⟨rfl,rfl⟩
theorem implOf_any (s:ByteArray) (w:World) (hs:s.size≤1048577) (hn:Nib w) :
  Calls Tryz.prog 79 #[.string s] w fun e w'=>e=.returned (.int .u32 (smore 4294967295 s.data.toList:Nat))∧w=w':=by
 have HN:=hide hn;clear hn
 go_enter Tryz.func79,Tryz.ntmps79
 go_wp2_with fail
 refine (implMore_any 4294967295 s _ (by decide) hs (unhide HN)).mono ?_;rintro e w' ⟨rfl,rfl⟩
 go_wp2
 go_ret
 exact ⟨rfl,rfl⟩
def stN:Nat→Nat→Nat
 | 0,x=>x
 | k+1,x=>st (stN k x)
theorem stN_lt:∀ (k:Nat) {x:Nat},x<4294967296→stN k x<4294967296
 | 0,_,h=>h
 | k+1,_,h=>st_lt (stN_lt k h)
theorem specMore_any (x:Nat) (s:ByteArray) (w:World) (hx:x<4294967296) (hs:s.size≤1048577) :
  Calls Tryz.prog 127 #[.int .u32 (x:Int),.string s] w fun e w'=>e=.returned (.int .u32 (smore x s.data.toList:Nat))∧w=w':=by
 go_enter Tryz.func127,Tryz.ntmps127
 go_wp2
 go_loop [0,5] (fun sv iv=>∃ (k y:Nat),k≤s.size∧y=smore x (s.data.toList.take k)∧sv=.int .u32 (y:Int)∧iv=.int .i64 (k:Int)) (fun _ iv=>s.size - (intOf iv).toNat)
 case atStart=>exact ⟨0,x,Nat.zero_le _,rfl,rfl,rfl⟩
 case round =>
  obtain ⟨k,y,hk,hy,rfl,rfl⟩:=hrel
  have hyl:y<4294967296:=by rw [hy];exact smore_lt _ hx
  have HY:=hide hy;clear hy
  by_cases hlt:k<s.size
  ·obtain ⟨c,hcx⟩:∃ c:Nat,s[k].toNat=c:=⟨_,rfl⟩
   have hcb:c<256:=by rw [← hcx];exact s[k].toNat_lt
   have HC:=hide hcx
   have hI:(0:Int)≤(k:Int)∧(k:Int)<(s.size:Int):=by omega
   obtain ⟨z,hz⟩:∃ z:Nat,y ^^^ c=z:=⟨_,rfl⟩
   have hzl:z<4294967296:=by rw [← hz];exact Nat.xor_lt_two_pow (n:=32) (by omega) (by omega)
   have hxr:bits .xor .u32 (y:Int) (c:Int)=(z:Int):=by rw [u32_xor_nat y c hyl (by omega),hz]
   have HZ:=hide hz;clear hz
   go_wp2
   go_loop [0,6] (fun sv iv=>∃ (j v:Nat),j≤8∧v=stN j z∧sv=.int .u32 (v:Int)∧iv=.int .i64 (j:Int)) (fun _ iv=>8 - (intOf iv).toNat)
   case atStart=>exact ⟨0,z,by omega,rfl,rfl,rfl⟩
   case round =>
    obtain ⟨j,v,hj,hv,rfl,rfl⟩:=hrel
    have hvl:v<4294967296:=by rw [hv];exact stN_lt j hzl
    have HV:=hide hv;clear hv
    by_cases hj8:j<8
    ·obtain ⟨q,hq⟩:∃ q:Nat,v / 2=q:=⟨_,rfl⟩
     have hqi:(v:Int) / 2=(q:Int):=by omega
     have hql:q<4294967296:=by omega
     have HQ:=hide hq;clear hq
     by_cases ho:v % 2=1
     ·have hoi:((v:Int) % 2 == 1)=true:=by simp;omega
      obtain ⟨r,hr⟩:∃ r:Nat,q ^^^ 3558460437=r:=⟨_,rfl⟩
      have hri:bits .xor .u32 (q:Int) 3558460437=(r:Int):=by rw [← hr];exact u32_xor_nat q 3558460437 hql (by omega)
      have HR:=hide hr;have HO:=hide ho;clear hr ho
      go_wp2
      go_round
      case rel=>exact ⟨j+1,r,by omega,by rw [stN,← unhide HV,st,if_pos (unhide HO),unhide HQ,unhide HR],rfl,by go_num⟩
      case measure=>simp [intOf];omega
     have hoi:((v:Int) % 2 == 1)=false:=by simp;omega
     have HO:=hide ho;clear ho
     go_wp2
     go_round
     case rel=>exact ⟨j+1,q,by omega,by rw [stN,← unhide HV,st,if_neg (unhide HO),unhide HQ],rfl,by go_num⟩
     case measure=>simp [intOf];omega
    have hj':j=8:=by omega
    subst hj'
    go_wp2
    go_round
    case rel=>exact ⟨k+1,v,by omega,by rw [smore_step x s k hlt,← unhide HY,unhide HC,unhide HZ,unhide HV];rfl,rfl,by go_num⟩
    case measure=>simp [intOf];omega
  go_wp2
  go_ret
  exact ⟨ret_int (by rw [unhide HY,List.take_of_length_le (by rw [Array.length_toList];exact Nat.le_of_not_lt hlt)]),rfl⟩
theorem specOf_any (s:ByteArray) (w:World) (hs:s.size≤1048577) :
  Calls Tryz.prog 90 #[.string s] w fun e w'=>e=.returned (.int .u32 (smore 4294967295 s.data.toList:Nat))∧w=w':=by
 go_enter Tryz.func90,Tryz.ntmps90
 go_wp2_with fail
 refine (specMore_any 4294967295 s _ (by decide) hs).mono ?_;rintro e w' ⟨rfl,rfl⟩
 go_wp2
 go_ret
 exact ⟨rfl,rfl⟩
theorem f4_conv (x:Nat) (w:World) (hx:x<4294967296) :
  (convert 22 9 (.slice (some ⟨w.heap.size,0,none⟩) 4 4)).run Tryz.prog (w.alloc (.cells #[.int .u8 ((x:Int) / 16777216),.int .u8 ((x:Int) / 65536 % 256),.int .u8 ((x:Int) / 256 % 256),.int .u8 ((x:Int) % 256)] 5))=.ok (.string ⟨(f4 x).toArray⟩) (w.alloc (.cells #[.int .u8 ((x:Int) / 16777216),.int .u8 ((x:Int) / 65536 % 256),.int .u8 ((x:Int) / 256 % 256),.int .u8 ((x:Int) % 256)] 5)):=by
 refine run_convert_bytes_back (P:=Tryz.prog) _ 22 9 5 ⟨w.heap.size,0,none⟩ 4 (f4 x) Tryz.underlying22 Tryz.underlying5 Tryz.underlying9 (fun j hj=>?_);have hj':j<4:=hj;have key:∀ (i:Nat) (v:Value),(#[.int .u8 ((x:Int) / 16777216),.int .u8 ((x:Int) / 65536 % 256),.int .u8 ((x:Int) / 256 % 256),.int .u8 ((x:Int) % 256)]:Array Value)[i]?=some v →
   (w.alloc (.cells #[.int .u8 ((x:Int) / 16777216),.int .u8 ((x:Int) / 65536 % 256),.int .u8 ((x:Int) / 256 % 256),.int .u8 ((x:Int) % 256)] 5)).cell? ((⟨w.heap.size,0,none⟩:Addr).add i)=some v:=by
  intro i v h;rw [show (⟨w.heap.size,0,none⟩:Addr).add i=⟨w.heap.size,i,none⟩ from by by_cases h0:i=0 <;> simp [Addr.add,h0]];rw [cell_of_row _ w.heap.size i _ _ (0,0) (heap_alloc_new w _)];exact h
 match j,hj' with
 | 0,_=>exact key 0 _ (congrArg some (congrArg (Value.int .u8) (by show (x:Int) / 16777216=((UInt8.ofNat (x / 16777216)).toNat:Nat);rw [u8_of];omega)))
 | 1,_=>exact key 1 _ (congrArg some (congrArg (Value.int .u8) (by show (x:Int) / 65536 % 256=((UInt8.ofNat (x / 65536)).toNat:Nat);rw [u8_of];omega)))
 | 2,_=>exact key 2 _ (congrArg some (congrArg (Value.int .u8) (by show (x:Int) / 256 % 256=((UInt8.ofNat (x / 256)).toNat:Nat);rw [u8_of];omega)))
 | 3,_=>exact key 3 _ (congrArg some (congrArg (Value.int .u8) (by show (x:Int) % 256=((UInt8.ofNat x).toNat:Nat);rw [u8_of];omega)))
theorem implBytes_any (x:Nat) (w:World) (hx:x<4294967296) :
  Calls Tryz.prog 80 #[.int .u32 (x:Int)] w fun e w'=>e=.returned (.string ⟨(f4 x).toArray⟩)∧Below w.heap.size w w':=by
 have hcv:=f4_conv x w hx
 go_enter Tryz.func80,Tryz.ntmps80
 go_wp2
 go_ret
 exact ⟨rfl,(Below.refl _ _).alloc (Nat.le_refl _) _⟩
def sof (s:ByteArray):Nat:=smore 4294967295 s.data.toList
theorem sof_lt (s:ByteArray):sof s<4294967296:=smore_lt _ (by decide)
def tail4 (s:ByteArray):ByteArray:=⟨(f4 (sof s)).toArray⟩
theorem tail4_size (s:ByteArray):(tail4 s).size=4:=rfl
theorem implSealed_yes (s:ByteArray) (w:World) (hs:s.size≤20000) (hn:Nib w) :
  Calls Tryz.prog 33 #[.string s] w fun e w'=>e=.returned (.tuple #[.string (s++tail4 s),.bool true])∧Below w.heap.size w w':=by
 have HN:=hide hn;clear hn;have hz:=tail4_size s
 go_enter Tryz.func33,Tryz.ntmps33
 go_wp2_with fail
 refine (implOf_any s _ (by omega) (unhide HN)).mono ?_;rintro e w1 ⟨rfl,rfl⟩
 go_wp2_with fail
 refine (implBytes_any (sof s) _ (sof_lt s)).mono ?_;rintro e w1 ⟨he,hb1⟩;obtain rfl:e=.returned (.string (tail4 s)):=he
 go_wp2
 go_ret2
 exact ⟨rfl,hb1⟩
theorem bytes_eq {a b:ByteArray} (h:a.toList=b.toList):a=b:=by
 rw [ByteArray.toList_eq,ByteArray.toList_eq] at h;exact ByteArray.ext (Array.toList_inj.mp h)
theorem size_cut (s:ByteArray) (n:Nat) (h:n≤s.size):(s.extract 0 n).size=n:=by simp;omega
theorem seal_parts (u:ByteArray) (hu:u.size≤1048577):∃ (z:Nat) (t:ByteArray),sof u=z∧tail4 u=t∧t.size=4 ∧
  (∀ W:World,Nib W→Calls Tryz.prog 79 #[.string u] W fun e w'=>e=.returned (.int .u32 (z:Int))∧W=w') ∧
  (∀ W:World,Calls Tryz.prog 80 #[.int .u32 (z:Int)] W fun e w'=>e=.returned (.string t)∧Below W.heap.size W w') :=
 ⟨sof u,tail4 u,rfl,rfl,rfl,fun W hW=>implOf_any u W hu hW,fun W=>implBytes_any (sof u) W (sof_lt u)⟩
theorem Nib.drew {w:World} (h:Nib w):Nib w.drew:=h
theorem implUnsealed_yes (s:ByteArray) (n:Nat) (w:World) (hl:s.size=n+4) (hs:n≤20000) (hn:Nib w) (he:tail4 (s.extract 0 n)=s.extract n s.size) :
  Calls Tryz.prog 35 #[.string s] w fun e w'=>e=.returned (.tuple #[.string (s.extract 0 n),.bool true])∧Below w.heap.size w w':=by
 have hcut:(s.extract 0 n).size=n:=size_cut s n (by omega);obtain ⟨z,t,hz,ht,hts,h21,h32⟩:=seal_parts (s.extract 0 n) (by omega);rw [ht] at he;obtain ⟨u,hu⟩:∃ u,s.extract 0 n=u:=⟨_,rfl⟩;rw [hu] at hcut h21 hz ht;have hcl:∀ W:World,Calls Tryz.prog 81 #[.string u] W fun e w'=>e=.returned (.string u)∧Below W.heap.size W w':=fun W=>clone_any u W (by omega);have HN:=hide hn;have H21:=hide h21;have H32:=hide h32;have HCL:=hide hcl
 have hli:(s.size:Int) - 4=(n:Int):=by omega
 have hle:n≤s.size:=by omega
 have hlm:s.size≤20004:=by omega
 have hv:s.extract n s.size=t:=he.symm
 have htt:(!t.toList == t.toList)=false:=by simp
 clear hl hn he h21 h32 hcl hz ht hts hcut
 go_enter Tryz.func35,Tryz.ntmps35
 go_wp2_with fail
 go_region_held3 (fun _=>True) (trivial) ((first
   | (go_at_call 79;refine (unhide H21 _ (by exact unhide HN)).mono ?_;rintro e w1 ⟨rfl,rfl⟩)
   | (go_at_call 80;refine (unhide H32 _).mono ?_;rintro e w1 ⟨rfl,hb1⟩)))
 go_wp2_with fail
 refine (unhide HCL _).mono ?_;rintro e w2 ⟨rfl,hb2⟩
 go_wp2
 go_ret2
 exact ⟨by rw [hu];rfl,(Below.refl _ w).drew.trans (hb1.trans (hb2.mono hb1.size))⟩
theorem implUnsealed_size (s:ByteArray) (w:World) (hm:s.size≤1048576) (h:s.size<4∨20004<s.size) :
  Calls Tryz.prog 35 #[.string s] w fun e w'=>e=.returned (.tuple #[.string ⟨#[]⟩,.bool false])∧w=w':=by
 rcases h with h | h
 ·have h1:(s.size:Int) - 4<0:=by omega
  go_enter Tryz.func35,Tryz.ntmps35
  go_wp2
  go_ret2
  exact ⟨rfl,rfl⟩
 have h0:¬ (s.size:Int) - 4<0:=by omega
 have h1:(20000:Int)<(s.size:Int) - 4:=by omega
 go_enter Tryz.func35,Tryz.ntmps35
 go_wp2
 go_ret2
 exact ⟨rfl,rfl⟩
theorem implUnsealed_no (s:ByteArray) (n:Nat) (w:World) (hl:s.size=n+4) (hs:n≤20000) (hn:Nib w) (he:tail4 (s.extract 0 n)≠s.extract n s.size) :
  Calls Tryz.prog 35 #[.string s] w fun e w'=>e=.returned (.tuple #[.string ⟨#[]⟩,.bool false])∧Below w.heap.size w w':=by
 have hcut:(s.extract 0 n).size=n:=size_cut s n (by omega);obtain ⟨z,t,hz,ht,hts,h21,h32⟩:=seal_parts (s.extract 0 n) (by omega);rw [ht] at he;obtain ⟨u,hu⟩:∃ u,s.extract 0 n=u:=⟨_,rfl⟩;rw [hu] at hcut h21 hz ht;obtain ⟨v,hv⟩:∃ v,s.extract n s.size=v:=⟨_,rfl⟩;rw [hv] at he;have HN:=hide hn;have H21:=hide h21;have H32:=hide h32
 have hli:(s.size:Int) - 4=(n:Int):=by omega
 have hle:n≤s.size:=by omega
 have hlm:s.size≤20004:=by omega
 have htt:(!t.toList == v.toList)=true:=by simp;intro h;exact he (bytes_eq h)
 clear hl hn he h21 h32 hz ht hts hcut
 go_enter Tryz.func35,Tryz.ntmps35
 go_wp2_with fail
 go_region_held3 (fun _=>True) (trivial) ((first
   | (go_at_call 79;refine (unhide H21 _ (by exact unhide HN)).mono ?_;rintro e w1 ⟨rfl,rfl⟩)
   | (go_at_call 80;refine (unhide H32 _).mono ?_;rintro e w1 ⟨rfl,hb1⟩)))
 go_wp2
 go_ret2
 exact ⟨rfl,(Below.refl _ w).drew.trans hb1⟩
theorem specFour_any (x:Nat) (w:World) (hx:x<4294967296) :
  Calls Tryz.prog 89 #[.int .u32 (x:Int)] w fun e w'=>e=.returned (.string ⟨(f4 x).toArray⟩)∧Below w.heap.size w w':=by
 have hcv:=f4_conv x w hx
 go_enter Tryz.func89,Tryz.ntmps89
 go_wp2
 go_ret
 exact ⟨rfl,(Below.refl _ _).alloc (Nat.le_refl _) _⟩
theorem specSealed_yes (s:ByteArray) (w:World) (hs:s.size≤20000) :
  Calls Tryz.prog 41 #[.string s] w fun e w'=>e=.returned (.tuple #[.string (s++tail4 s),.bool true])∧Below w.heap.size w w':=by
 have hz:=tail4_size s
 go_enter Tryz.func41,Tryz.ntmps41
 go_wp2_with fail
 refine (specOf_any s _ (by omega)).mono ?_;rintro e w1 ⟨rfl,rfl⟩
 go_wp2_with fail
 refine (specFour_any (sof s) _ (sof_lt s)).mono ?_;rintro e w1 ⟨he,hb1⟩;obtain rfl:e=.returned (.string (tail4 s)):=he
 go_wp2
 go_ret2
 exact ⟨rfl,hb1⟩
theorem specSealed_no (s:ByteArray) (w:World) (hm:s.size≤1048576) (hs:¬ s.size≤20000) :
  Calls Tryz.prog 41 #[.string s] w fun e w'=>e=.returned (.tuple #[.string ⟨#[]⟩,.bool false])∧w=w':=by
 go_enter Tryz.func41,Tryz.ntmps41
 go_wp2
 go_ret2
 exact ⟨rfl,rfl⟩
theorem specSeal_parts (u:ByteArray) (hu:u.size≤1048577):∃ (z:Nat) (t:ByteArray),tail4 u=t ∧
  (∀ W:World,Calls Tryz.prog 90 #[.string u] W fun e w'=>e=.returned (.int .u32 (z:Int))∧W=w') ∧
  (∀ W:World,Calls Tryz.prog 89 #[.int .u32 (z:Int)] W fun e w'=>e=.returned (.string t)∧Below W.heap.size W w') :=
 ⟨sof u,tail4 u,rfl,fun W=>specOf_any u W hu,fun W=>specFour_any (sof u) W (sof_lt u)⟩
theorem specUnsealed_size (s:ByteArray) (w:World) (hm:s.size≤1048576) (h:s.size<4∨20004<s.size) :
  Calls Tryz.prog 40 #[.string s] w fun e w'=>e=.returned (.tuple #[.string ⟨#[]⟩,.bool false])∧Below w.heap.size w w':=by
 have hlm:s.size≤1048576:=hm;obtain ⟨m,hmi⟩:∃ m:Int,(s.size:Int) - 4=m:=⟨_,rfl⟩
 rcases h with h | h
 ·have hd0:decide (m<0)=true:=by simp;omega
  clear h hm
  go_enter Tryz.func40,Tryz.ntmps40
  go_wp2_with fail
  go_region
  all_goals go_wp2
  all_goals go_ret2
  all_goals exact ⟨rfl,(Below.refl _ _).drew⟩
 have hd0:decide (m<0)=false:=by simp;omega
 have hd1:decide ((20000:Int)<m)=true:=by simp;omega
 clear h hm
 go_enter Tryz.func40,Tryz.ntmps40
 go_wp2_with fail
 go_region
 all_goals go_wp2
 all_goals go_ret2
 all_goals exact ⟨rfl,(Below.refl _ _).drew⟩
theorem specUnsealed_yes (s:ByteArray) (n:Nat) (w:World) (hl:s.size=n+4) (hs:n≤20000) (he:tail4 (s.extract 0 n)=s.extract n s.size) :
  Calls Tryz.prog 40 #[.string s] w fun e w'=>e=.returned (.tuple #[.string (s.extract 0 n),.bool true])∧Below w.heap.size w w':=by
 have hcut:(s.extract 0 n).size=n:=size_cut s n (by omega);obtain ⟨z,t,ht,h21,h32⟩:=specSeal_parts (s.extract 0 n) (by omega);rw [ht] at he;obtain ⟨u,hu⟩:∃ u,s.extract 0 n=u:=⟨_,rfl⟩;rw [hu] at hcut h21 ht;have H21:=hide h21;have H32:=hide h32
 have hli:(s.size:Int) - 4=(n:Int):=by omega
 have hle:n≤s.size:=by omega
 have hlm:s.size≤20004:=by omega
 have hv:s.extract n s.size=t:=he.symm
 have htt:(!t.toList == t.toList)=false:=by simp
 have hd0:decide ((n:Int)<0)=false:=by simp
 have hd1:decide ((20000:Int)<(n:Int))=false:=by simp;omega
 clear hl he h21 h32 ht hcut
 go_enter Tryz.func40,Tryz.ntmps40
 go_wp2_with fail
 go_region_held3 (fun _=>True) (trivial) ((first
   | (go_at_call 90;refine (unhide H21 _).mono ?_;rintro e w1 ⟨rfl,rfl⟩)
   | (go_at_call 89;refine (unhide H32 _).mono ?_;rintro e w1 ⟨rfl,hb1⟩)))
 go_wp2
 go_ret2
 exact ⟨by rw [hu];rfl,(Below.refl _ w).drew.trans hb1⟩
theorem specUnsealed_no (s:ByteArray) (n:Nat) (w:World) (hl:s.size=n+4) (hs:n≤20000) (he:tail4 (s.extract 0 n)≠s.extract n s.size) :
  Calls Tryz.prog 40 #[.string s] w fun e w'=>e=.returned (.tuple #[.string ⟨#[]⟩,.bool false])∧Below w.heap.size w w':=by
 have hcut:(s.extract 0 n).size=n:=size_cut s n (by omega);obtain ⟨z,t,ht,h21,h32⟩:=specSeal_parts (s.extract 0 n) (by omega);rw [ht] at he;obtain ⟨u,hu⟩:∃ u,s.extract 0 n=u:=⟨_,rfl⟩;rw [hu] at hcut h21 ht;obtain ⟨v,hv⟩:∃ v,s.extract n s.size=v:=⟨_,rfl⟩;rw [hv] at he;have H21:=hide h21;have H32:=hide h32
 have hli:(s.size:Int) - 4=(n:Int):=by omega
 have hle:n≤s.size:=by omega
 have hlm:s.size≤20004:=by omega
 have htt:(!v.toList == t.toList)=true:=by simp;intro h;exact he (bytes_eq h).symm
 have hd0:decide ((n:Int)<0)=false:=by simp
 have hd1:decide ((20000:Int)<(n:Int))=false:=by simp;omega
 clear hl he h21 h32 ht hcut
 go_enter Tryz.func40,Tryz.ntmps40
 go_wp2_with fail
 go_region_held3 (fun _=>True) (trivial) ((first
   | (go_at_call 90;refine (unhide H21 _).mono ?_;rintro e w1 ⟨rfl,rfl⟩)
   | (go_at_call 89;refine (unhide H32 _).mono ?_;rintro e w1 ⟨rfl,hb1⟩)))
 go_wp2
 go_ret2
 exact ⟨rfl,(Below.refl _ w).drew.trans hb1⟩
def fz:List M4→Nat
 | []=>0
 | m::L=>1+m.2.2.1.length+fz L
theorem row_kept {W W':World} {B e size n:Nat} {v:Value} {xs:List Value} {r:Option Nat} (h:W.ownsRow B e size v n xs) (hg:W.grownBy W' r) (hne:∀ j,v.ownBlock=some j→r≠some j):W'.ownsRow B e size v n xs :=
 World.ownsRow.kept h hg (by
   cases hv:v.ownBlock with
   | none=>exact Or.inl rfl
   | some j=>exact Or.inr (fun e=>hne j hv e.symm))
def OwH (W:World) (B hi:Nat) (mv gv:Value) (L:List M4) (G:List Int):Prop :=
 ∃ Z,Z.map md=L∧OwZ W B mv Z∧OwI W B gv G∧Dj gv mv∧(∀ z∈Z,Dj gv z.2.2.1)∧(∀ j,mv.ownBlock=some j→j<hi)∧(∀ j,gv.ownBlock=some j→j<hi)∧∀ z∈Z,∀ j,z.2.2.1.ownBlock=some j→j<hi
theorem OwB.h {W:World} {B:Nat} {mv gv:Value} {L:List M4} {G:List Int} (h:OwB W B mv gv L G):OwH W B W.heap.size mv gv L G:=by
 obtain ⟨Z,h1,h2,h3,h4,h5⟩:=h;exact ⟨Z,h1,h2,h3,h4,h5,fun j hj=>(h2.row.lt j hj).2,fun j hj=>(h3.lt j hj).2,fun z hz j hj=>((h2.each z hz).lt j hj).2⟩
theorem OwH.b {W:World} {B hi:Nat} {mv gv:Value} {L:List M4} {G:List Int} (h:OwH W B hi mv gv L G):OwB W B mv gv L G:=by
 obtain ⟨Z,h1,h2,h3,h4,h5,_⟩:=h;exact ⟨Z,h1,h2,h3,h4,h5⟩
theorem OwH.later {W W':World} {B hi:Nat} {mv gv:Value} {L:List M4} {G:List Int} (h:OwH W B hi mv gv L G) (hb:Below W.heap.size W W'):OwH W' B hi mv gv L G:=by
 obtain ⟨Z,h1,h2,h3,h4⟩:=h;exact ⟨Z,h1,h2.later hb,own_later h3 hb,h4⟩
theorem OwH.base {W:World} {B B' hi:Nat} {mv gv:Value} {L:List M4} {G:List Int} (h:OwH W B' hi mv gv L G) (hB:B≤B'):OwH W B hi mv gv L G:=by
 obtain ⟨Z,h1,h2,h3,h4⟩:=h;exact ⟨Z,h1,h2.base hB,own_base h3 hB,h4⟩
theorem Bx.newd (w:World) (ty:Nat) (g:Int) (nm:ByteArray) (t b nx:Int) (ms gs:Value):Bx (w.alloc (.cells #[.int .i64 g,.string nm,.int .i64 t,.int .i64 b,.int .i64 nx,ms,gs] ty)).drew w.heap.size ty g nm t b nx ms gs:=heap_alloc_new w _
theorem bxl {W W':World} {k ty:Nat} {g:Int} {nm:ByteArray} {t b nx:Int} {ms gs:Value} (h:Bx W k ty g nm t b nx ms gs) (hb:Below W.heap.size W W'):k<W.heap.size∧Bx W' k ty g nm t b nx ms gs:=⟨h.lt,h.later hb⟩
structure Ans (wn W:World) (k:Nat) (g:Int) (nm:ByteArray) (t b nx:Int) (mv gv:Value) (L:List M4) (G:List Int):Prop where
 box:Bx W k 38 g nm t b nx mv gv
 le:wn.heap.size≤k
 own:∃ B hi,OwH W B hi mv gv L G∧wn.heap.size≤B∧hi≤W.heap.size∧(k<B∨hi≤k)
 bel:Below wn.heap.size wn W
theorem ans_last {wn v:World} {B:Nat} {g:Int} {nm:ByteArray} {t b nx:Int} {mv gv:Value} {L:List M4} {G:List Int} (ho:OwB v B mv gv L G) (hB:wn.heap.size≤B) (hb:Below wn.heap.size wn v) :
  Ans wn (v.alloc (.cells #[.int .i64 g,.string nm,.int .i64 t,.int .i64 b,.int .i64 nx,mv,gv] 38)) v.heap.size g nm t b nx mv gv L G :=
 ⟨Bx.new v _ _ _ _ _ _ _ _,hb.size,⟨B,v.heap.size,ho.h.later (bpush (bre _) _),hB,by simp,.inr (Nat.le_refl _)⟩,bpush hb _⟩
theorem ans_first {wn v:World} {B k:Nat} {g':Int} {nm':ByteArray} {t' b' nx':Int} {ms' gs':Value} {g:Int} {nm:ByteArray} {t b nx:Int} {mv gv:Value} {L:List M4} {G:List Int} (h:Bx v k 38 g' nm' t' b' nx' ms' gs') (hk:k<B) (ho:OwB v B mv gv L G) (hn:wn.heap.size≤k) (hb:Below wn.heap.size wn v) :
  Ans wn (((((((v.setCell ⟨k,0,none⟩ (.int .i64 g)).setCell ⟨k,1,none⟩ (.string nm)).setCell ⟨k,2,none⟩ (.int .i64 t)).setCell ⟨k,3,none⟩ (.int .i64 b)).setCell ⟨k,4,none⟩ (.int .i64 nx)).setCell ⟨k,5,none⟩ mv).setCell ⟨k,6,none⟩ gv) k g nm t b nx mv gv L G :=
 ⟨h.set7 g nm t b nx mv gv,hn,⟨B,_,(ho.grown (set7_grown v k g nm t b nx mv gv) hk).h,Nat.le_of_lt (Nat.lt_of_le_of_lt hn hk),Nat.le_refl _,.inl hk⟩,hb.trans (below_of_grown (set7_grown v k g nm t b nx mv gv) hn hb.size)⟩
theorem any_split {L:List M4} {gid:Int} (h:uq L=true) (ha:L.any (fun m=>decide (m.1=gid))=true) :
  ∃ A m C,L=A++m::C∧m.1=gid∧(∀ x∈A,x.1≠gid)∧(∀ x∈C,x.1≠gid):=by
 obtain ⟨m,hm,he⟩:=List.any_eq_true.1 ha;simp only [decide_eq_true_eq] at he;obtain ⟨A,C,rfl⟩:=List.append_of_mem hm;unfold uq at h;simp only [decide_eq_true_eq,List.map_append,List.map_cons] at h;obtain ⟨-,h2,h3⟩:=List.nodup_append.1 h;have h4:=(List.nodup_cons.1 h2).1;refine ⟨A,m,C,rfl,he,fun x hx e=>?_,fun x hx e=>?_⟩
 ·exact h3 _ (List.mem_map_of_mem hx) m.1 (List.mem_cons_self ..) (by rw [e,he])
 exact h4 (by rw [he,← e];exact List.mem_map_of_mem hx)
def fgm (m:M4) (n st sb:Int):M4:=(m.1,m.2.1,sl m.2.2.1 n st sb,m.2.2.2)
def fmOk (g:Int) (nm:ByteArray) (t b nx:Int) (L:List M4) (G:List Int) (gid n st sb:Int):Bool :=
 bxOk g nm t b nx L G&&(L.any (fun m=>decide (m.1=gid))&&(flr n&&stOk st sb))
def fmL (p:Bool) (L:List M4) (gid n st sb:Int):List M4:=if p=true then L.map (fun m=>if m.1=gid then fgm m n st sb else m) else L
theorem map_skip {A:List M4} {gid:Int} (f:M4→M4) (h:∀ x∈A,x.1≠gid):A.map (fun m=>if m.1=gid then f m else m)=A:=by
 induction A with
 | nil=>rfl
 | cons a A ih =>
  rw [List.map_cons,ih (fun x hx=>h x (List.mem_cons_of_mem _ hx)),if_neg (h a (List.mem_cons_self ..))]
theorem fmL_split {A C:List M4} {m:M4} {gid n st sb:Int} (hm:m.1=gid) (ha:∀ x∈A,x.1≠gid) (hc:∀ x∈C,x.1≠gid):fmL true (A++m::C) gid n st sb=A++fgm m n st sb::C:=by
 rw [fmL,if_pos rfl,List.map_append,List.map_cons,map_skip (fun m=>fgm m n st sb) ha,map_skip (fun m=>fgm m n st sb) hc,if_pos hm]
theorem fmL_no (L:List M4) (gid n st sb:Int):fmL false L gid n st sb=L:=by rw [fmL,if_neg (by decide)]
theorem fmL_len (p:Bool) (L:List M4) (gid n st sb:Int):(fmL p L gid n st sb).length=L.length:=by unfold fmL;split <;> simp
theorem fm_sm (p:Bool) {L:List M4} {gid n st sb:Int} (h:Sm L):Sm (fmL p L gid n st sb):=by
 unfold fmL
 split
 ·intro m hm
  obtain ⟨x,hx,rfl⟩:=List.mem_map.1 hm;have:=h x hx
  split
  ·exact ⟨by simp only [fgm];rw [sl_len];exact this.1,this.2⟩
  exact this
 exact h
theorem zc_set1 (Z:List Z5) (i:Nat) (z:Z5) (h:i<Z.length) (h0:z.1=Z[i].1) (h1:z.2.1=Z[i].2.1) (h3:z.2.2.2.2=Z[i].2.2.2.2) :
  (zc Z).set (i*4+2) z.2.2.1=zc (Z.set i z):=by
 induction Z generalizing i with
 | nil=>simp at h
 | cons y Z ih =>
  cases i with
  | zero =>
   simp only [List.getElem_cons_zero] at h0 h1 h3
   simp [zc,h0,h1,h3]
  | succ i =>
   have h':i<Z.length:=by simpa using h
   have:=ih i h' (by simpa using h0) (by simpa using h1) (by simpa using h3)
   have e:(i+1)*4+2=i*4+2+1+1+1+1:=by omega
   rw [e]
   simpa [zc] using this
theorem OwZ.flags {W:World} {B g n c:Nat} {Z:List Z5} (h:OwZ W B (.slice (some ⟨g,0,none⟩) n c) Z) (i:Nat) (hi:i<Z.length) (z:Z5) (h0:z.1=Z[i].1) (h1:z.2.1=Z[i].2.1) (h3:z.2.2.2.2=Z[i].2.2.2.2) (ho:Ow W B z.2.2.1 z.2.2.2.1) (hg:z.2.2.1.ownBlock≠some g) (hd:∀ y∈Z,Dj z.2.2.1 y.2.2.1) :
  OwZ (W.setCell ⟨g,i*4+2,none⟩ z.2.2.1) B (.slice (some ⟨g,0,none⟩) n c) (Z.set i z):=by
 obtain rfl:=h.ms.1;have hgr:W.grownBy (W.setCell ⟨g,i*4+2,none⟩ z.2.2.1) (some g):=wst (wre _ _) _ _;have h2:=(World.ownsRow.stored h.row (i*4+2) z.2.2.1).1;rw [zc_set1 Z i z hi h0 h1 h3] at h2;have hk:∀ {x:Value} {l:List R3},Ow W B x l→x.ownBlock≠some g→Ow (W.setCell ⟨g,i*4+2,none⟩ z.2.2.1) B x l :=
  fun hx hne=>World.ownsRow.kept hx hgr (Or.inr hne)
 refine ⟨by simpa using h2,fun y hy=>?_,fun y hy=>?_,pair_set h.apart i z hd (fun y hy=>(hd y hy).symm)⟩
 ·rcases mem_set hy with hy | rfl
  ·exact hk (h.each y hy) (far_of h hy)
  exact hk ho hg
 rcases mem_set hy with hy | rfl
 ·exact h.off y hy
 exact fun j hj hj'=>hg (by rw [hj',← hj];rfl)
theorem heap_far (W:World) {k j:Nat} (h:¬ k=j) (i:Nat) (v:Value) (hj:j<W.heap.size):(W.setCell ⟨k,i,none⟩ v).heap[j]?=W.heap[j]?:=by
 have hg:W.grownBy (W.setCell ⟨k,i,none⟩ v) (some k):=wst (wre _ _) _ _;exact hg.block j hj (fun e=>h (by simpa using e.symm))
end Go.Proofs.YtdkedgedkgabnaaGreatDoor
