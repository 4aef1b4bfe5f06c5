/- Sto, Seq, Sto2, Ssz, Mkz. -/
import Derived.Test.YtkbecgcbheopnaaGreatdSok
import Derived.Lib.ItoaNum
namespace Go.Proofs.YtkbecgcbheopnaaGreat
open Go.RowKit Go.ChangeMaps
def y0 (B:Nat):Y9:=⟨0,⟨#[]⟩,0,0,0,.slice none 0 0,.slice none 0 0,[],[],B,B⟩
theorem two_stores (w:World) (ta tb:Nat) (y tm y1 tm1:Int) (bv gv bv1 gv1:Value) (W0:World)
  (h:((w.alloc (.cells #[.int .i64 y,.int .i64 tm,bv,gv] ta)).alloc (.cells #[.int .i64 y1,.int .i64 tm1,bv1,gv1] tb))=W0) :
  Sx W0 w.heap.size ta y tm bv gv∧Sx W0 (w.heap.size+1) tb y1 tm1 bv1 gv1∧Below w.heap.size w W0∧W0.heap.size=w.heap.size+1+1:=by
 have e1:(w.alloc (.cells #[.int .i64 y,.int .i64 tm,bv,gv] ta)).heap.size=w.heap.size+1:=by simp
 have h1:=Sx.new (w.alloc (.cells #[.int .i64 y,.int .i64 tm,bv,gv] ta)) tb y1 tm1 bv1 gv1
 rw [e1] at h1
 subst h
 exact ⟨(Sx.new w ta y tm bv gv).later (bpush (bre _) _),h1,bpush (bpush (bre _) _) _,by simp⟩
def szX (x:X7):Nat:=x.2.1.size+szL x.2.2.2.2.2.1+x.2.2.2.2.2.2.length
def toX:List X7→Nat
 | []=>0
 | x::S=>szX x+toX S
def szB (S:List X7):Nat:=S.length+toX S
def FitB (S:List X7):Prop:=∀ x∈S,(x.2.1.size:Int)≤9223372036854775807∧(x.2.2.2.2.2.1.length:Int)≤9223372036854775807∧Fit x.2.2.2.2.2.1∧(x.2.2.2.2.2.2.length:Int)≤9223372036854775807
def mdg (n:Nat):List UInt8:=Lib.decDigits n
def mdz (n:Nat):List UInt8:=if n=0 then [] else mdg n
def mtx6 (k:Nat):ByteArray:=⟨(109::mdg k).toArray⟩
def mki (k n:Nat):List Int:=(List.range n).map fun i=>((k+i:Nat):Int)
structure Chg (P:Nat→Prop) (W W':World):Prop where
 os:W'.os=W.os
 tape:W'.tape=W.tape
 output:W'.output=W.output
 size:W.heap.size≤W'.heap.size
 block:∀ k,k<W.heap.size→¬ P k→W'.heap[k]?=W.heap[k]?
def mz1 (k:Nat) (z:Z5):Z5:=((k:Int),((k+1:Nat):Int),z.2.2.1,mks (k+2) z.2.2.2.1.length,mtx6 (k+2+z.2.2.2.1.length*3))
def kz1 (k:Nat) (z:Z5):Nat:=k+2+z.2.2.2.1.length*3+1
def mzs (k:Nat):List Z5→List Z5
 | []=>[]
 | z::Z=>mz1 k z::mzs (kz1 k z) Z
def kz (k:Nat):List Z5→Nat
 | []=>k
 | z::Z=>kz (kz1 k z) Z
def fz:List M4→Nat
 | []=>0
 | m::L=>1+m.2.2.1.length+fz L
theorem row_kept {W W':World} {B e size n:Nat} {v:Value} {xs:List Value} {r:Option Nat} (h:W.ownsRow B e size v n xs) (hg:W.grownBy W' r) (hne:∀ j,v.ownBlock=some j→r≠some j):W'.ownsRow B e size v n xs :=
 World.ownsRow.kept h hg (by
   cases hv:v.ownBlock with
   | none=>exact Or.inl rfl
   | some j=>exact Or.inr (fun e=>hne j hv e.symm))
end Go.Proofs.YtkbecgcbheopnaaGreat
namespace Go.Proofs.YtkbecgcbheopnaaGreat
open Go.RowKit Go.ChangeMaps
def MkB (W:World) (B:Nat) (mv gv:Value) (L:List M4) (gn:Nat):Prop :=
 ∃ Z,Z.map md=L∧OwZ W B mv (mzs 1 Z)∧OwI W B gv (mki (kz 1 Z) gn)
def OwH (W:World) (B hi:Nat) (mv gv:Value) (L:List M4) (G:List Int):Prop :=
 ∃ Z,Z.map md=L∧OwZ W B mv Z∧OwI W B gv G∧Dj gv mv∧(∀ z∈Z,Dj gv z.2.2.1)∧(∀ j,mv.ownBlock=some j→j<hi)∧(∀ j,gv.ownBlock=some j→j<hi)∧∀ z∈Z,∀ j,z.2.2.1.ownBlock=some j→j<hi
theorem OwB.h {W:World} {B:Nat} {mv gv:Value} {L:List M4} {G:List Int} (h:OwB W B mv gv L G):OwH W B W.heap.size mv gv L G:=by
 obtain ⟨Z,h1,h2,h3,h4,h5⟩:=h
 exact ⟨Z,h1,h2,h3,h4,h5,fun j hj=>(h2.row.lt j hj).2,fun j hj=>(h3.lt j hj).2,fun z hz j hj=>((h2.each z hz).lt j hj).2⟩
theorem OwH.later {W W':World} {B hi:Nat} {mv gv:Value} {L:List M4} {G:List Int} (h:OwH W B hi mv gv L G) (hb:Below W.heap.size W W'):OwH W' B hi mv gv L G:=by
 obtain ⟨Z,h1,h2,h3,h4⟩:=h
 exact ⟨Z,h1,h2.later hb,own_later h3 hb,h4⟩
theorem Bx.newd (w:World) (ty:Nat) (g:Int) (nm:ByteArray) (t b nx:Int) (ms gs:Value):Bx (w.alloc (.cells #[.int .i64 g,.string nm,.int .i64 t,.int .i64 b,.int .i64 nx,ms,gs] ty)).drew w.heap.size ty g nm t b nx ms gs:=heap_alloc_new w _
theorem bxl {W W':World} {k ty:Nat} {g:Int} {nm:ByteArray} {t b nx:Int} {ms gs:Value} (h:Bx W k ty g nm t b nx ms gs) (hb:Below W.heap.size W W'):k<W.heap.size∧Bx W' k ty g nm t b nx ms gs:=⟨h.lt,h.later hb⟩
structure Ans (wn W:World) (k:Nat) (g:Int) (nm:ByteArray) (t b nx:Int) (mv gv:Value) (L:List M4) (G:List Int):Prop where
 box:Bx W k 37 g nm t b nx mv gv
 le:wn.heap.size≤k
 own:∃ B hi,OwH W B hi mv gv L G∧wn.heap.size≤B∧hi≤W.heap.size∧(k<B∨hi≤k)
 bel:Below wn.heap.size wn W
theorem ans_last {wn v:World} {B:Nat} {g:Int} {nm:ByteArray} {t b nx:Int} {mv gv:Value} {L:List M4} {G:List Int} (ho:OwB v B mv gv L G) (hB:wn.heap.size≤B) (hb:Below wn.heap.size wn v) :
  Ans wn (v.alloc (.cells #[.int .i64 g,.string nm,.int .i64 t,.int .i64 b,.int .i64 nx,mv,gv] 37)) v.heap.size g nm t b nx mv gv L G :=
 ⟨Bx.new v _ _ _ _ _ _ _ _,hb.size,⟨B,v.heap.size,ho.h.later (bpush (bre _) _),hB,by simp,.inr (Nat.le_refl _)⟩,bpush hb _⟩
theorem ans_first {wn v:World} {B k:Nat} {g':Int} {nm':ByteArray} {t' b' nx':Int} {ms' gs':Value} {g:Int} {nm:ByteArray} {t b nx:Int} {mv gv:Value} {L:List M4} {G:List Int} (h:Bx v k 37 g' nm' t' b' nx' ms' gs') (hk:k<B) (ho:OwB v B mv gv L G) (hn:wn.heap.size≤k) (hb:Below wn.heap.size wn v) :
  Ans wn (((((((v.setCell ⟨k,0,none⟩ (.int .i64 g)).setCell ⟨k,1,none⟩ (.string nm)).setCell ⟨k,2,none⟩ (.int .i64 t)).setCell ⟨k,3,none⟩ (.int .i64 b)).setCell ⟨k,4,none⟩ (.int .i64 nx)).setCell ⟨k,5,none⟩ mv).setCell ⟨k,6,none⟩ gv) k g nm t b nx mv gv L G :=
 ⟨h.set7 g nm t b nx mv gv,hn,⟨B,_,(ho.grown (set7_grown v k g nm t b nx mv gv) hk).h,Nat.le_of_lt (Nat.lt_of_le_of_lt hn hk),Nat.le_refl _,.inl hk⟩,hb.trans (below_of_grown (set7_grown v k g nm t b nx mv gv) hn hb.size)⟩
end Go.Proofs.YtkbecgcbheopnaaGreat
namespace Go.Proofs.YtkbecgcbheopnaaGreat
open Go.RowKit Go.ChangeMaps
end Go.Proofs.YtkbecgcbheopnaaGreat
