/- Tij. -/

import Derived.Test.YtkbecgcbheopnaaGreatdTii
namespace Go.Proofs.YtkbecgcbheopnaaGreat
open Go.RowKit Go.ChangeMaps
theorem fidx_cases {α:Type} (p:α→Bool) (S:List α) (k:Nat):fidx p S k<0∨∃ i,∃ h:i<S.length,fidx p S k=((k+i:Nat):Int)∧p S[i]=true:=by
 induction S generalizing k with
 | nil=>exact .inl (by simp [fidx])
 | cons x S ih =>
  rw [fidx]
  by_cases hp:p x=true
  ·rw [if_pos hp]
   exact .inr ⟨0,by simp,by simp,hp⟩
  ·rw [if_neg hp]
   rcases ih (k+1) with h | ⟨i,h,e,hq⟩
   ·exact .inl h
   ·exact .inr ⟨i+1,by simpa using h,by rw [e];congr 1;omega,by simpa using hq⟩
def chB (S:List X7) (box:Int) (ok:X7→Bool) (f:X7→X7):Bool×List X7 :=
 if fidx (isG box) S 0<0 then (false,S) else
  match S[(fidx (isG box) S 0).toNat]? with
  | none=>(false,S)
  | some x=>(ok x,S.set (fidx (isG box) S 0).toNat (f x))
theorem chB_no {S:List X7} {box:Int} {ok:X7→Bool} {f:X7→X7} (h:fidx (isG box) S 0<0):chB S box ok f=(false,S):=by rw [chB,if_pos h]
theorem chB_at {S:List X7} {box:Int} {ok:X7→Bool} {f:X7→X7} {i:Nat} (h:fidx (isG box) S 0=(i:Int)) (hi:i<S.length) {x:X7} (hx:S[i]=x):chB S box ok f=(ok x,S.set i (f x)):=by
 rw [chB,if_neg (by omega),h]
 simp only [Int.toNat_natCast]
 rw [List.getElem?_eq_getElem hi,hx]
def pmK (y tm gid fl:Int) (tx:ByteArray) (x:X7):Bool:=amOk x.1 x.2.1 x.2.2.1 x.2.2.2.1 x.2.2.2.2.1 x.2.2.2.2.2.1 x.2.2.2.2.2.2 gid fl tx (tm+1) y
def pmF (y tm gid fl:Int) (tx:ByteArray) (x:X7):X7:=(x.1,x.2.1,x.2.2.1,x.2.2.2.1,amN (pmK y tm gid fl tx x) x.2.2.2.2.1,amL (pmK y tm gid fl tx x) x.2.2.2.2.2.1 (nwm gid x.2.2.2.2.1 fl tx (tm+1) y),x.2.2.2.2.2.2)
def mmK (y tm gid fl:Int) (x:X7):Bool:=fmOk x.1 x.2.1 x.2.2.1 x.2.2.2.1 x.2.2.2.2.1 x.2.2.2.2.2.1 x.2.2.2.2.2.2 gid fl (tm+1) y
def mmF (y tm gid fl:Int) (x:X7):X7:=(x.1,x.2.1,x.2.2.1,x.2.2.2.1,x.2.2.2.2.1,fmL (mmK y tm gid fl x) x.2.2.2.2.2.1 gid fl (tm+1) y,x.2.2.2.2.2.2)
def dmK (gid:Int) (x:X7):Bool:=tkOk x.1 x.2.1 x.2.2.1 x.2.2.2.1 x.2.2.2.2.1 x.2.2.2.2.2.1 x.2.2.2.2.2.2 gid
def dmF (gid:Int) (x:X7):X7:=(x.1,x.2.1,x.2.2.1,x.2.2.2.1,x.2.2.2.2.1,tkL (dmK gid x) x.2.2.2.2.2.1 gid,tkG (dmK gid x) x.2.2.2.2.2.2 gid)
def Sx1 (x:X7):Prop:=x.2.1.size≤1048576∧x.2.2.2.2.2.1.length≤1048576∧Sm x.2.2.2.2.2.1∧x.2.2.2.2.2.2.length≤1048576
theorem sb_set {S:List X7} (h:Sb S) (i:Nat) {x:X7} (hx:Sx1 x):Sb (S.set i x):=by
 intro z hz
 rcases mem_set hz with hz | rfl
 ·exact h z hz
 ·exact hx
theorem sOk_tm {y tm:Int} {S:List X7} {G:List Int} (h:sOk y tm S G=true):0≤tm∧tm≤100000:=by
 unfold sOk at h
 simp only [Bool.and_eq_true,decide_eq_true_eq] at h
 exact h.2.1
theorem pm_small {y tm gid fl:Int} {tx:ByteArray} {x:X7} (hx:Sx1 x) (ht:tx.size≤1048576):Sx1 (pmF y tm gid fl tx x):=by
 obtain ⟨h1,h2,h3,h4⟩:=hx
 refine ⟨h1,?_,?_,h4⟩
 ·show (amL _ _ _).length≤_
  cases h:pmK y tm gid fl tx x with
  | false=>rw [amL,if_neg (by decide)];exact h2
  | true =>
   unfold pmK amOk at h
   simp only [Bool.and_eq_true] at h
   have:=(bx_parts h.1).1
   rw [amL,if_pos rfl,List.length_append]
   simp only [List.length_cons,List.length_nil]
   omega
 ·show Sm (amL _ _ _)
  unfold amL
  split
  ·exact sm_snoc h3 ht
  ·exact h3
theorem mm_small {y tm gid fl:Int} {x:X7} (hx:Sx1 x):Sx1 (mmF y tm gid fl x):=by
 obtain ⟨h1,h2,h3,h4⟩:=hx
 refine ⟨h1,?_,?_,h4⟩
 ·show (fmL _ _ _ _ _ _).length≤_
  unfold fmL
  split
  ·rw [List.length_map];exact h2
  ·exact h2
 ·exact fm_sm _ h3
theorem dm_small {gid:Int} {x:X7} (hx:Sx1 x):Sx1 (dmF gid x):=by
 obtain ⟨h1,h2,h3,h4⟩:=hx
 refine ⟨h1,Nat.le_trans (tk_sub _ _ _).length_le h2,fun m hm=>h3 m ((tk_sub _ _ _).subset hm),?_⟩
 show (tkG _ _ _).length≤_
 unfold tkG
 cases h:dmK gid x with
 | false=>rw [if_neg (by decide)];exact h4
 | true =>
  unfold dmK tkOk at h
  simp only [Bool.and_eq_true,decide_eq_true_eq] at h
  rw [if_pos rfl]
  have h5:=pin_len gid x.2.2.2.2.2.2
  omega
theorem store_caps1 (w:World) (ta tb t1:Nat) (y tm y1 tm1:Int) (bv gv bv1 gv1 v1:Value) (W0:World) (h:((w.alloc (.cells #[.int .i64 y,.int .i64 tm,bv,gv] ta)).alloc (.cells #[v1] t1)).alloc (.cells #[.int .i64 y1,.int .i64 tm1,bv1,gv1] tb)=W0) :
  Sx W0 w.heap.size ta y tm bv gv∧W0.cell? ⟨w.heap.size+1,0,none⟩=some v1∧Sx W0 (w.heap.size+1+1) tb y1 tm1 bv1 gv1∧Below w.heap.size w W0∧W0.heap.size=w.heap.size+1+1+1:=by
 have e1:(w.alloc (.cells #[.int .i64 y,.int .i64 tm,bv,gv] ta)).heap.size=w.heap.size+1:=by simp
 have h1:=heap_alloc_new (w.alloc (.cells #[.int .i64 y,.int .i64 tm,bv,gv] ta)) (.cells #[v1] t1)
 rw [e1] at h1
 have e2:((w.alloc (.cells #[.int .i64 y,.int .i64 tm,bv,gv] ta)).alloc (.cells #[v1] t1)).heap.size=w.heap.size+1+1:=by simp
 have h2:=heap_alloc_new ((w.alloc (.cells #[.int .i64 y,.int .i64 tm,bv,gv] ta)).alloc (.cells #[v1] t1)) (.cells #[.int .i64 y1,.int .i64 tm1,bv1,gv1] tb)
 rw [e2] at h2
 subst h
 exact ⟨(Sx.new w ta y tm bv gv).later (bpush (bpush (bre _) _) _),cell_of_row _ _ 0 _ _ _ ((Below.block (bpush (bre _) _) _ (by rw [show ((w.alloc (.cells #[.int .i64 y,.int .i64 tm,bv,gv] ta)).alloc (.cells #[v1] t1)).heap.size=w.heap.size+1+1 by simp];omega)).trans h1),h2,(bpush (bpush (bpush (bre _) _) _) _),by simp⟩
theorem store_caps2 (w:World) (ta tb t1 t2:Nat) (y tm y1 tm1:Int) (bv gv bv1 gv1 v1 v2:Value) (W0:World) (h:(((w.alloc (.cells #[.int .i64 y,.int .i64 tm,bv,gv] ta)).alloc (.cells #[v1] t1)).alloc (.cells #[v2] t2)).alloc (.cells #[.int .i64 y1,.int .i64 tm1,bv1,gv1] tb)=W0) :
  Sx W0 w.heap.size ta y tm bv gv∧W0.cell? ⟨w.heap.size+1,0,none⟩=some v1∧W0.cell? ⟨w.heap.size+1+1,0,none⟩=some v2∧Sx W0 (w.heap.size+1+1+1) tb y1 tm1 bv1 gv1∧Below w.heap.size w W0∧W0.heap.size=w.heap.size+1+1+1+1:=by
 have e1:(w.alloc (.cells #[.int .i64 y,.int .i64 tm,bv,gv] ta)).heap.size=w.heap.size+1:=by simp
 have h1:=heap_alloc_new (w.alloc (.cells #[.int .i64 y,.int .i64 tm,bv,gv] ta)) (.cells #[v1] t1)
 rw [e1] at h1
 have e2:((w.alloc (.cells #[.int .i64 y,.int .i64 tm,bv,gv] ta)).alloc (.cells #[v1] t1)).heap.size=w.heap.size+1+1:=by simp
 have h2:=heap_alloc_new ((w.alloc (.cells #[.int .i64 y,.int .i64 tm,bv,gv] ta)).alloc (.cells #[v1] t1)) (.cells #[v2] t2)
 rw [e2] at h2
 have e3:(((w.alloc (.cells #[.int .i64 y,.int .i64 tm,bv,gv] ta)).alloc (.cells #[v1] t1)).alloc (.cells #[v2] t2)).heap.size=w.heap.size+1+1+1:=by simp
 have h3:=heap_alloc_new (((w.alloc (.cells #[.int .i64 y,.int .i64 tm,bv,gv] ta)).alloc (.cells #[v1] t1)).alloc (.cells #[v2] t2)) (.cells #[.int .i64 y1,.int .i64 tm1,bv1,gv1] tb)
 rw [e3] at h3
 subst h
 exact ⟨(Sx.new w ta y tm bv gv).later (bpush (bpush (bpush (bre _) _) _) _),cell_of_row _ _ 0 _ _ _ ((Below.block (bpush (bpush (bre _) _) _) _ (by rw [show ((w.alloc (.cells #[.int .i64 y,.int .i64 tm,bv,gv] ta)).alloc (.cells #[v1] t1)).heap.size=w.heap.size+1+1 by simp];omega)).trans h1),cell_of_row _ _ 0 _ _ _ ((Below.block (bpush (bre _) _) _ (by rw [show (((w.alloc (.cells #[.int .i64 y,.int .i64 tm,bv,gv] ta)).alloc (.cells #[v1] t1)).alloc (.cells #[v2] t2)).heap.size=w.heap.size+1+1+1 by simp];omega)).trans h2),h3,(bpush (bpush (bpush (bpush (bre _) _) _) _) _),by simp⟩
theorem store_caps3 (w:World) (ta tb t1 t2 t3:Nat) (y tm y1 tm1:Int) (bv gv bv1 gv1 v1 v2 v3:Value) (W0:World) (h:((((w.alloc (.cells #[.int .i64 y,.int .i64 tm,bv,gv] ta)).alloc (.cells #[v1] t1)).alloc (.cells #[v2] t2)).alloc (.cells #[v3] t3)).alloc (.cells #[.int .i64 y1,.int .i64 tm1,bv1,gv1] tb)=W0) :
  Sx W0 w.heap.size ta y tm bv gv∧W0.cell? ⟨w.heap.size+1,0,none⟩=some v1∧W0.cell? ⟨w.heap.size+1+1,0,none⟩=some v2∧W0.cell? ⟨w.heap.size+1+1+1,0,none⟩=some v3∧Sx W0 (w.heap.size+1+1+1+1) tb y1 tm1 bv1 gv1∧Below w.heap.size w W0∧W0.heap.size=w.heap.size+1+1+1+1+1:=by
 have e1:(w.alloc (.cells #[.int .i64 y,.int .i64 tm,bv,gv] ta)).heap.size=w.heap.size+1:=by simp
 have h1:=heap_alloc_new (w.alloc (.cells #[.int .i64 y,.int .i64 tm,bv,gv] ta)) (.cells #[v1] t1)
 rw [e1] at h1
 have e2:((w.alloc (.cells #[.int .i64 y,.int .i64 tm,bv,gv] ta)).alloc (.cells #[v1] t1)).heap.size=w.heap.size+1+1:=by simp
 have h2:=heap_alloc_new ((w.alloc (.cells #[.int .i64 y,.int .i64 tm,bv,gv] ta)).alloc (.cells #[v1] t1)) (.cells #[v2] t2)
 rw [e2] at h2
 have e3:(((w.alloc (.cells #[.int .i64 y,.int .i64 tm,bv,gv] ta)).alloc (.cells #[v1] t1)).alloc (.cells #[v2] t2)).heap.size=w.heap.size+1+1+1:=by simp
 have h3:=heap_alloc_new (((w.alloc (.cells #[.int .i64 y,.int .i64 tm,bv,gv] ta)).alloc (.cells #[v1] t1)).alloc (.cells #[v2] t2)) (.cells #[v3] t3)
 rw [e3] at h3
 have e4:((((w.alloc (.cells #[.int .i64 y,.int .i64 tm,bv,gv] ta)).alloc (.cells #[v1] t1)).alloc (.cells #[v2] t2)).alloc (.cells #[v3] t3)).heap.size=w.heap.size+1+1+1+1:=by simp
 have h4:=heap_alloc_new ((((w.alloc (.cells #[.int .i64 y,.int .i64 tm,bv,gv] ta)).alloc (.cells #[v1] t1)).alloc (.cells #[v2] t2)).alloc (.cells #[v3] t3)) (.cells #[.int .i64 y1,.int .i64 tm1,bv1,gv1] tb)
 rw [e4] at h4
 subst h
 exact ⟨(Sx.new w ta y tm bv gv).later (bpush (bpush (bpush (bpush (bre _) _) _) _) _),cell_of_row _ _ 0 _ _ _ ((Below.block (bpush (bpush (bpush (bre _) _) _) _) _ (by rw [show ((w.alloc (.cells #[.int .i64 y,.int .i64 tm,bv,gv] ta)).alloc (.cells #[v1] t1)).heap.size=w.heap.size+1+1 by simp];omega)).trans h1),cell_of_row _ _ 0 _ _ _ ((Below.block (bpush (bpush (bre _) _) _) _ (by rw [show (((w.alloc (.cells #[.int .i64 y,.int .i64 tm,bv,gv] ta)).alloc (.cells #[v1] t1)).alloc (.cells #[v2] t2)).heap.size=w.heap.size+1+1+1 by simp];omega)).trans h2),cell_of_row _ _ 0 _ _ _ ((Below.block (bpush (bre _) _) _ (by rw [show ((((w.alloc (.cells #[.int .i64 y,.int .i64 tm,bv,gv] ta)).alloc (.cells #[v1] t1)).alloc (.cells #[v2] t2)).alloc (.cells #[v3] t3)).heap.size=w.heap.size+1+1+1+1 by simp];omega)).trans h3),h4,(bpush (bpush (bpush (bpush (bpush (bre _) _) _) _) _) _),by simp⟩
theorem store_caps4 (w:World) (ta tb t1 t2 t3 t4:Nat) (y tm y1 tm1:Int) (bv gv bv1 gv1 v1 v2 v3 v4:Value) (W0:World) (h:(((((w.alloc (.cells #[.int .i64 y,.int .i64 tm,bv,gv] ta)).alloc (.cells #[v1] t1)).alloc (.cells #[v2] t2)).alloc (.cells #[v3] t3)).alloc (.cells #[v4] t4)).alloc (.cells #[.int .i64 y1,.int .i64 tm1,bv1,gv1] tb)=W0) :
  Sx W0 w.heap.size ta y tm bv gv∧W0.cell? ⟨w.heap.size+1,0,none⟩=some v1∧W0.cell? ⟨w.heap.size+1+1,0,none⟩=some v2∧W0.cell? ⟨w.heap.size+1+1+1,0,none⟩=some v3∧W0.cell? ⟨w.heap.size+1+1+1+1,0,none⟩=some v4∧Sx W0 (w.heap.size+1+1+1+1+1) tb y1 tm1 bv1 gv1∧Below w.heap.size w W0∧W0.heap.size=w.heap.size+1+1+1+1+1+1:=by
 have e1:(w.alloc (.cells #[.int .i64 y,.int .i64 tm,bv,gv] ta)).heap.size=w.heap.size+1:=by simp
 have h1:=heap_alloc_new (w.alloc (.cells #[.int .i64 y,.int .i64 tm,bv,gv] ta)) (.cells #[v1] t1)
 rw [e1] at h1
 have e2:((w.alloc (.cells #[.int .i64 y,.int .i64 tm,bv,gv] ta)).alloc (.cells #[v1] t1)).heap.size=w.heap.size+1+1:=by simp
 have h2:=heap_alloc_new ((w.alloc (.cells #[.int .i64 y,.int .i64 tm,bv,gv] ta)).alloc (.cells #[v1] t1)) (.cells #[v2] t2)
 rw [e2] at h2
 have e3:(((w.alloc (.cells #[.int .i64 y,.int .i64 tm,bv,gv] ta)).alloc (.cells #[v1] t1)).alloc (.cells #[v2] t2)).heap.size=w.heap.size+1+1+1:=by simp
 have h3:=heap_alloc_new (((w.alloc (.cells #[.int .i64 y,.int .i64 tm,bv,gv] ta)).alloc (.cells #[v1] t1)).alloc (.cells #[v2] t2)) (.cells #[v3] t3)
 rw [e3] at h3
 have e4:((((w.alloc (.cells #[.int .i64 y,.int .i64 tm,bv,gv] ta)).alloc (.cells #[v1] t1)).alloc (.cells #[v2] t2)).alloc (.cells #[v3] t3)).heap.size=w.heap.size+1+1+1+1:=by simp
 have h4:=heap_alloc_new ((((w.alloc (.cells #[.int .i64 y,.int .i64 tm,bv,gv] ta)).alloc (.cells #[v1] t1)).alloc (.cells #[v2] t2)).alloc (.cells #[v3] t3)) (.cells #[v4] t4)
 rw [e4] at h4
 have e5:(((((w.alloc (.cells #[.int .i64 y,.int .i64 tm,bv,gv] ta)).alloc (.cells #[v1] t1)).alloc (.cells #[v2] t2)).alloc (.cells #[v3] t3)).alloc (.cells #[v4] t4)).heap.size=w.heap.size+1+1+1+1+1:=by simp
 have h5:=heap_alloc_new (((((w.alloc (.cells #[.int .i64 y,.int .i64 tm,bv,gv] ta)).alloc (.cells #[v1] t1)).alloc (.cells #[v2] t2)).alloc (.cells #[v3] t3)).alloc (.cells #[v4] t4)) (.cells #[.int .i64 y1,.int .i64 tm1,bv1,gv1] tb)
 rw [e5] at h5
 subst h
 exact ⟨(Sx.new w ta y tm bv gv).later (bpush (bpush (bpush (bpush (bpush (bre _) _) _) _) _) _),cell_of_row _ _ 0 _ _ _ ((Below.block (bpush (bpush (bpush (bpush (bre _) _) _) _) _) _ (by rw [show ((w.alloc (.cells #[.int .i64 y,.int .i64 tm,bv,gv] ta)).alloc (.cells #[v1] t1)).heap.size=w.heap.size+1+1 by simp];omega)).trans h1),cell_of_row _ _ 0 _ _ _ ((Below.block (bpush (bpush (bpush (bre _) _) _) _) _ (by rw [show (((w.alloc (.cells #[.int .i64 y,.int .i64 tm,bv,gv] ta)).alloc (.cells #[v1] t1)).alloc (.cells #[v2] t2)).heap.size=w.heap.size+1+1+1 by simp];omega)).trans h2),cell_of_row _ _ 0 _ _ _ ((Below.block (bpush (bpush (bre _) _) _) _ (by rw [show ((((w.alloc (.cells #[.int .i64 y,.int .i64 tm,bv,gv] ta)).alloc (.cells #[v1] t1)).alloc (.cells #[v2] t2)).alloc (.cells #[v3] t3)).heap.size=w.heap.size+1+1+1+1 by simp];omega)).trans h3),cell_of_row _ _ 0 _ _ _ ((Below.block (bpush (bre _) _) _ (by rw [show (((((w.alloc (.cells #[.int .i64 y,.int .i64 tm,bv,gv] ta)).alloc (.cells #[v1] t1)).alloc (.cells #[v2] t2)).alloc (.cells #[v3] t3)).alloc (.cells #[v4] t4)).heap.size=w.heap.size+1+1+1+1+1 by simp];omega)).trans h4),h5,(bpush (bpush (bpush (bpush (bpush (bpush (bre _) _) _) _) _) _) _),by simp⟩
set_option maxHeartbeats 3200000 in
set_option maxRecDepth 100000 in
theorem putOut_any (k:Nat) (y tm:Int) (bv gv:Value) (S:List X7) (G:List Int) (box gid fl:Int) (tx:ByteArray) (k1 k2 k3 k4:Nat) (w:World) (h:Sx w k 27 y tm bv gv) (ho:OwT w (k+1) bv gv S G) (hn:S.length≤1048576) (hsb:Sb S) (hgn:G.length≤1048576) (ht:0≤tm∧tm≤100000) (htx:tx.size≤1048576) (hk1:k1<k) (ck1:w.cell? ⟨k1,0,none⟩=some (.int .i64 gid)) (hk2:k2<k) (ck2:w.cell? ⟨k2,0,none⟩=some (.int .i64 box)) (hk3:k3<k) (ck3:w.cell? ⟨k3,0,none⟩=some (.int .i64 fl)) (hk4:k4<k) (ck4:w.cell? ⟨k4,0,none⟩=some (.string tx)) :
  Calls Tryz.prog 48 #[.pointer (some ⟨k,0,none⟩),.pointer (some ⟨k1,0,none⟩),.pointer (some ⟨k2,0,none⟩),.pointer (some ⟨k3,0,none⟩),.pointer (some ⟨k4,0,none⟩)] w fun e w'=>e=.returned (.bool (!kno gid S G&&(chB S box (pmK y tm gid fl tx) (pmF y tm gid fl tx)).1))∧((!kno gid S G&&(chB S box (pmK y tm gid fl tx) (pmF y tm gid fl tx)).1)=true→∃ bv' gv',Sx w' k 27 y (tm+1) bv' gv'∧OwT w' (k+1) bv' gv' (chB S box (pmK y tm gid fl tx) (pmF y tm gid fl tx)).2 G)∧Below k w w':=by
 obtain ⟨sn,hsn⟩:∃ sn,S.length=sn:=⟨_,rfl⟩
 obtain ⟨gn,hgn'⟩:∃ gn,G.length=gn:=⟨_,rfl⟩
 obtain ⟨ba,bc,ga,gc,hv1,hv2⟩:=ho.shape
 rw [hsn] at hv1
 rw [hgn'] at hv2
 subst hv1
 subst hv2
 have hrd:=ho.reads.2.2.1
 have hrg:=ho.reads.2.2.2
 have c0:=h.cells
 have hkl:=h.lt
 have HKL:=hid hkl
 have A0:=hid h
 have O0:=hid ho
 have HRD:=hid hrd
 have HRG:=hid hrg
 have HSB:=hid hsb
 have HSN:=hid hsn
 have HGN:=hid hgn'
 rw [hsn] at hn
 rw [hgn'] at hgn
 have HN:=hid hn
 have HG:=hid hgn
 have HCk1:=hid ck1
 have HLk1:=hid hk1
 have HCk2:=hid ck2
 have HLk2:=hid hk2
 have HCk3:=hid ck3
 have HLk3:=hid hk3
 have HCk4:=hid ck4
 have HLk4:=hid hk4
 clear h ho hrd hrg hsb hsn hgn' hgn hkl hk1 hk2 hk3 hk4
 go_enter Tryz.func48,Tryz.ntmps48
 obtain ⟨q,hq⟩:∃ q,kno gid S G=q:=⟨_,rfl⟩
 have HQK:=hid hq
 clear hq
 go_wp2_with fail
 have HS:Hid (∀ W,Below w.heap.size w W→(W.cell? ⟨k,0,none⟩=some (.int .i64 y)∧W.cell? ⟨k,1,none⟩=some (.int .i64 tm)∧W.cell? ⟨k,2,none⟩=some (.slice ba sn bc)∧W.cell? ⟨k,3,none⟩=some (.slice ga gn gc))∧W.cell? ⟨k1,0,none⟩=some (.int .i64 gid)):=fun W hb=>⟨(A0.out.later hb).cells,(hb.cell (p:=⟨k1,0,none⟩) (by have h1:=HKL.out;have h2:=HLk1.out;show k1<w.heap.size;omega)).trans HCk1.out⟩
 clear c0 ck1 ck2 ck3 ck4
 refine wp_region_noPanic ?_
 refine wp_region_held_drew (S:=(fun W=>(W.cell? ⟨k,0,none⟩=some (.int .i64 y)∧W.cell? ⟨k,1,none⟩=some (.int .i64 tm)∧W.cell? ⟨k,2,none⟩=some (.slice ba sn bc)∧W.cell? ⟨k,3,none⟩=some (.slice ga gn gc))∧W.cell? ⟨k1,0,none⟩=some (.int .i64 gid))) (by kernel_rfl) (HS.out _ (bdr (bre _))) (fun hHeld=>?_)
 refine tk 0 ?_
 refine tk 1 ?_
 refine tk 2 ?_
 refine tk 3 ?_
 clear hHeld
 refine ry 4 (fun K hK=>?_)
 go_simp
 refine (implKnows_any _ _ _ _ y tm ba sn bc ga gn gc S G gid _ HSN.out HN.out HSB.out (HRD.out.later (bdr (bre _))) HGN.out HG.out (HRG.out.later (bdr (bre _)))).mono ?_;rintro e w1 ⟨rfl,hb1⟩
 rw [HQK.out]
 go_wp2_with fail
 refine hK.out _ _ (HS.out _ bb) (fun hHeld=>?_)
 clear hK K
 try simp only [Act.put,tp2,tp3,tp4]
 refine wpAnyH_done (by kernel_rfl) ?_ _
 refine NoPanic.normal ?_
 clear hHeld
 have HB1:Hid (Below w.heap.size w w1):=btr (bdr (bre _)) hb1
 clear hb1
 cases q
 case true =>
  have HE:Hid ((!kno gid S G&&(chB S box (pmK y tm gid fl tx) (pmF y tm gid fl tx)).1)=false):=by show _=_;rw [HQK.out];rfl
  go_wp2
  go_ret
  exact ⟨by rw [HE.out];rfl,(fun h=>by rw [HE.out] at h;cases h),HB1.out.mono (Nat.le_of_lt HKL.out)⟩
 have HOK:Hid ((!kno gid S G&&(chB S box (pmK y tm gid fl tx) (pmF y tm gid fl tx)).1)=(chB S box (pmK y tm gid fl tx) (pmF y tm gid fl tx)).1):=by show _=_;rw [HQK.out];rfl
 have A1:=hid (A0.out.later HB1.out)
 have O1:=hid (O0.out.later HB1.out)
 go_wp2_with fail
 refine (giveStamp_any k y tm _ _ w1 A1.out (by omega)).mono ?_;rintro e w2 ⟨rfl,hsx2,hg2⟩
 have O2:=hid (O1.out.grown hg2 (by omega))
 have A2:=hid hsx2
 have HB2:Hid (Below k w w2):=(HB1.out.mono (Nat.le_of_lt HKL.out)).trans (below_of_grown hg2 (Nat.le_refl _) (Nat.le_trans (Nat.le_of_lt HKL.out) HB1.out.size))
 have HS2:Hid (w.heap.size≤w2.heap.size):=Nat.le_trans HB1.out.size hg2.size
 clear hsx2 hg2 A1 O1 HB1
 obtain ⟨W3,hW3⟩:∃ W3,w2.alloc (.cells #[.int .i64 (tm+1),.int .i64 y] 34)=W3:=⟨_,rfl⟩
 have b3:Below w2.heap.size w2 W3:=by subst hW3;exact bpush (bre _) _
 have st3:Sg W3 w2.heap.size 34 (tm+1) y:=by subst hW3;exact Sg.new _ _ _ _
 have A3:=hid (A2.out.later b3)
 have O3:=hid (O2.out.later b3)
 have HB3:Hid (Below k w W3):=HB2.out.trans (b3.mono (by have h1:=HKL.out;have h2:=HS2.out;omega))
 have ST3:=hid st3
 clear b3 st3 A2 O2 HB2
 have dk1:=(HB3.out.cell (p:=⟨k1,0,none⟩) HLk1.out).trans HCk1.out
 have dk2:=(HB3.out.cell (p:=⟨k2,0,none⟩) HLk2.out).trans HCk2.out
 have dk3:=(HB3.out.cell (p:=⟨k3,0,none⟩) HLk3.out).trans HCk3.out
 have dk4:=(HB3.out.cell (p:=⟨k4,0,none⟩) HLk4.out).trans HCk4.out
 have hrd3:=O3.out.reads.2.2.1
 have HRD3:=hid hrd3
 clear hrd3 HRD HRG A0 O0
 rcases fidx_cases (isG box) S 0 with hneg | ⟨i,hi,hiz,_⟩
 ·have HE:Hid ((!kno gid S G&&(chB S box (pmK y tm gid fl tx) (pmF y tm gid fl tx)).1)=false):=by show _=_;rw [HOK.out,chB_no hneg]
  have HCC:=hid (changeBox_no 50 #[.pointer (some ⟨k1,0,none⟩),.pointer (some ⟨k3,0,none⟩),.pointer (some ⟨k4,0,none⟩),.pointer (some ⟨w2.heap.size,0,none⟩)] _ _ k y (tm+1) ba sn bc (.slice ga gn gc) S box W3 A3.out HSN.out HN.out HRD3.out hneg)
  clear hneg
  go_wp2_with fail
  refine HCC.out.mono ?_;rintro e w4 ⟨rfl,hb4⟩
  have HB4:Hid (Below k w w4):=HB3.out.trans (hb4.mono (Nat.le_of_lt A3.out.lt))
  clear hb4 HCC
  go_wp2
  go_ret
  exact ⟨by rw [HE.out];rfl,(fun h=>by rw [HE.out] at h;cases h),HB4.out⟩
 ·rw [Nat.zero_add] at hiz
  obtain ⟨gb,rfl⟩:=O3.out.addr hi
  obtain ⟨x,hx⟩:∃ x,S[i]=x:=⟨_,rfl⟩
  have hcb:=chB_at (ok:=pmK y tm gid fl tx) (f:=pmF y tm gid fl tx) hiz hi hx
  have hmem:=HSB.out S[i] (List.getElem_mem hi)
  rw [hx] at hmem
  have HQ:=hid hmem
  have HCB:=hid hcb
  have hib:i<sn:=by rw [← HSN.out];exact hi
  obtain ⟨okx,hokx⟩:∃ okx,pmK y tm gid fl tx x=okx:=⟨_,rfl⟩
  have HCC:Hid (Calls Tryz.prog 49 #[.pointer (some ⟨k,0,none⟩),.int .i64 box,.func (.func 50) #[] #[.pointer (some ⟨k1,0,none⟩),.pointer (some ⟨k3,0,none⟩),.pointer (some ⟨k4,0,none⟩),.pointer (some ⟨w2.heap.size,0,none⟩)]] W3 fun e w'=>e=.returned (.bool okx)∧Sx w' k 27 y (tm+1) (.slice (some ⟨gb,0,none⟩) sn bc) (.slice ga gn gc)∧OwT w' (k+1) (.slice (some ⟨gb,0,none⟩) sn bc) (.slice ga gn gc) (S.set i (pmF y tm gid fl tx x)) G∧Below (k+1) W3 w'):=by
   obtain ⟨g0,nm0,t0,b0,nx0,L0,G0⟩:=x
   dsimp only at HQ
   refine changeBox_at 50 _ k y (tm+1) gb sn bc _ S G box i W3 A3.out O3.out HSN.out HN.out hiz hib (Go.Proofs.enters_of Tryz.func50 (by kernel_rfl) rfl) g0 nm0 t0 b0 nx0 L0 G0 (fun _=>hx) okx _ _ _ _ _ _ _ (fun W lo hh ma mc ga gc hb hms h0 his h1=>?_)
   subst hokx
   exact inPut_any g0 nm0 t0 b0 nx0 ma _ mc ga _ gc gid fl tx (tm+1) y k1 k3 k4 w2.heap.size _ _ _ _ W (Nat.lt_of_lt_of_le (Nat.lt_trans HLk1.out A3.out.lt) hb.size) ((hb.cell (p:=⟨k1,0,none⟩) (Nat.lt_trans HLk1.out A3.out.lt)).trans ((HB3.out.cell (p:=⟨k1,0,none⟩) HLk1.out).trans HCk1.out)) (Nat.lt_of_lt_of_le (Nat.lt_trans HLk3.out A3.out.lt) hb.size) ((hb.cell (p:=⟨k3,0,none⟩) (Nat.lt_trans HLk3.out A3.out.lt)).trans ((HB3.out.cell (p:=⟨k3,0,none⟩) HLk3.out).trans HCk3.out)) (Nat.lt_of_lt_of_le (Nat.lt_trans HLk4.out A3.out.lt) hb.size) ((hb.cell (p:=⟨k4,0,none⟩) (Nat.lt_trans HLk4.out A3.out.lt)).trans ((HB3.out.cell (p:=⟨k4,0,none⟩) HLk4.out).trans HCk4.out)) (Nat.lt_of_lt_of_le ST3.out.lt hb.size) (ST3.out.later hb).cells (fun W2 hb2=>implAdd_any lo hh lo hh g0 nm0 t0 b0 nx0 ma _ mc ga _ gc L0 G0 gid fl tx (tm+1) y W2 HQ.out.1 rfl HQ.out.2.1 HQ.out.2.2.1 (hms.later hb2) h0 rfl HQ.out.2.2.2 (his.later hb2) h1 htx)
  have HE:Hid ((!kno gid S G&&(chB S box (pmK y tm gid fl tx) (pmF y tm gid fl tx)).1)=okx):=by show _=_;rw [HOK.out,HCB.out,← hokx]
  have HF:Hid ((chB S box (pmK y tm gid fl tx) (pmF y tm gid fl tx)).2=S.set i (pmF y tm gid fl tx x)):=by show _=_;rw [HCB.out]
  clear hcb hmem hokx hx hiz
  go_wp2_with fail
  refine HCC.out.mono ?_;rintro e w4 ⟨rfl,hsx4,hot4,hb4⟩
  have HB4:Hid (Below k w w4):=HB3.out.trans (hb4.mono (by omega))
  have A4:=hid hsx4
  have O4:=hid hot4
  clear hb4 hsx4 hot4 HCC
  go_wp2
  go_ret
  exact ⟨by rw [HE.out];rfl,fun _=>⟨_,_,A4.out,by rw [HF.out];exact O4.out⟩,HB4.out⟩
set_option maxHeartbeats 3200000 in
set_option maxRecDepth 100000 in
theorem markOut_any (k:Nat) (y tm:Int) (bv gv:Value) (S:List X7) (G:List Int) (box gid fl:Int) (k1 k2 k3:Nat) (w:World) (h:Sx w k 27 y tm bv gv) (ho:OwT w (k+1) bv gv S G) (hn:S.length≤1048576) (hsb:Sb S) (hgn:G.length≤1048576) (ht:0≤tm∧tm≤100000) (hk1:k1<k) (ck1:w.cell? ⟨k1,0,none⟩=some (.int .i64 box)) (hk2:k2<k) (ck2:w.cell? ⟨k2,0,none⟩=some (.int .i64 gid)) (hk3:k3<k) (ck3:w.cell? ⟨k3,0,none⟩=some (.int .i64 fl)) :
  Calls Tryz.prog 78 #[.pointer (some ⟨k,0,none⟩),.pointer (some ⟨k1,0,none⟩),.pointer (some ⟨k2,0,none⟩),.pointer (some ⟨k3,0,none⟩)] w fun e w'=>e=.returned (.bool (chB S box (mmK y tm gid fl) (mmF y tm gid fl)).1)∧((chB S box (mmK y tm gid fl) (mmF y tm gid fl)).1=true→∃ bv' gv',Sx w' k 27 y (tm+1) bv' gv'∧OwT w' (k+1) bv' gv' (chB S box (mmK y tm gid fl) (mmF y tm gid fl)).2 G)∧Below k w w':=by
 obtain ⟨sn,hsn⟩:∃ sn,S.length=sn:=⟨_,rfl⟩
 obtain ⟨gn,hgn'⟩:∃ gn,G.length=gn:=⟨_,rfl⟩
 obtain ⟨ba,bc,ga,gc,hv1,hv2⟩:=ho.shape
 rw [hsn] at hv1
 rw [hgn'] at hv2
 subst hv1
 subst hv2
 have hrd:=ho.reads.2.2.1
 have hrg:=ho.reads.2.2.2
 have c0:=h.cells
 have hkl:=h.lt
 have HKL:=hid hkl
 have A0:=hid h
 have O0:=hid ho
 have HRD:=hid hrd
 have HRG:=hid hrg
 have HSB:=hid hsb
 have HSN:=hid hsn
 have HGN:=hid hgn'
 rw [hsn] at hn
 rw [hgn'] at hgn
 have HN:=hid hn
 have HG:=hid hgn
 have HCk1:=hid ck1
 have HLk1:=hid hk1
 have HCk2:=hid ck2
 have HLk2:=hid hk2
 have HCk3:=hid ck3
 have HLk3:=hid hk3
 clear h ho hrd hrg hsb hsn hgn' hgn hkl hk1 hk2 hk3
 go_enter Tryz.func78,Tryz.ntmps78
 have HB1:Hid (Below w.heap.size w w):=bre _
 clear c0 ck1 ck2 ck3
 have A1:=hid (A0.out.later HB1.out)
 have O1:=hid (O0.out.later HB1.out)
 go_wp2_with fail
 refine (giveStamp_any k y tm _ _ w A1.out (by omega)).mono ?_;rintro e w2 ⟨rfl,hsx2,hg2⟩
 have O2:=hid (O1.out.grown hg2 (by omega))
 have A2:=hid hsx2
 have HB2:Hid (Below k w w2):=(HB1.out.mono (Nat.le_of_lt HKL.out)).trans (below_of_grown hg2 (Nat.le_refl _) (Nat.le_trans (Nat.le_of_lt HKL.out) HB1.out.size))
 have HS2:Hid (w.heap.size≤w2.heap.size):=Nat.le_trans HB1.out.size hg2.size
 clear hsx2 hg2 A1 O1 HB1
 obtain ⟨W3,hW3⟩:∃ W3,w2.alloc (.cells #[.int .i64 (tm+1),.int .i64 y] 34)=W3:=⟨_,rfl⟩
 have b3:Below w2.heap.size w2 W3:=by subst hW3;exact bpush (bre _) _
 have st3:Sg W3 w2.heap.size 34 (tm+1) y:=by subst hW3;exact Sg.new _ _ _ _
 have A3:=hid (A2.out.later b3)
 have O3:=hid (O2.out.later b3)
 have HB3:Hid (Below k w W3):=HB2.out.trans (b3.mono (by have h1:=HKL.out;have h2:=HS2.out;omega))
 have ST3:=hid st3
 clear b3 st3 A2 O2 HB2
 have dk1:=(HB3.out.cell (p:=⟨k1,0,none⟩) HLk1.out).trans HCk1.out
 have dk2:=(HB3.out.cell (p:=⟨k2,0,none⟩) HLk2.out).trans HCk2.out
 have dk3:=(HB3.out.cell (p:=⟨k3,0,none⟩) HLk3.out).trans HCk3.out
 have hrd3:=O3.out.reads.2.2.1
 have HRD3:=hid hrd3
 clear hrd3 HRD HRG A0 O0
 rcases fidx_cases (isG box) S 0 with hneg | ⟨i,hi,hiz,_⟩
 ·have HE:Hid ((chB S box (mmK y tm gid fl) (mmF y tm gid fl)).1=false):=by show _=_;rw [chB_no hneg]
  have HCC:=hid (changeBox_no 79 #[.pointer (some ⟨k2,0,none⟩),.pointer (some ⟨k3,0,none⟩),.pointer (some ⟨w2.heap.size,0,none⟩)] _ _ k y (tm+1) ba sn bc (.slice ga gn gc) S box W3 A3.out HSN.out HN.out HRD3.out hneg)
  clear hneg
  go_wp2_with fail
  refine HCC.out.mono ?_;rintro e w4 ⟨rfl,hb4⟩
  have HB4:Hid (Below k w w4):=HB3.out.trans (hb4.mono (Nat.le_of_lt A3.out.lt))
  clear hb4 HCC
  go_wp2
  go_ret
  exact ⟨by rw [HE.out];rfl,(fun h=>by rw [HE.out] at h;cases h),HB4.out⟩
 ·rw [Nat.zero_add] at hiz
  obtain ⟨gb,rfl⟩:=O3.out.addr hi
  obtain ⟨x,hx⟩:∃ x,S[i]=x:=⟨_,rfl⟩
  have hcb:=chB_at (ok:=mmK y tm gid fl) (f:=mmF y tm gid fl) hiz hi hx
  have hmem:=HSB.out S[i] (List.getElem_mem hi)
  rw [hx] at hmem
  have HQ:=hid hmem
  have HCB:=hid hcb
  have hib:i<sn:=by rw [← HSN.out];exact hi
  obtain ⟨okx,hokx⟩:∃ okx,mmK y tm gid fl x=okx:=⟨_,rfl⟩
  have HCC:Hid (Calls Tryz.prog 49 #[.pointer (some ⟨k,0,none⟩),.int .i64 box,.func (.func 79) #[] #[.pointer (some ⟨k2,0,none⟩),.pointer (some ⟨k3,0,none⟩),.pointer (some ⟨w2.heap.size,0,none⟩)]] W3 fun e w'=>e=.returned (.bool okx)∧Sx w' k 27 y (tm+1) (.slice (some ⟨gb,0,none⟩) sn bc) (.slice ga gn gc)∧OwT w' (k+1) (.slice (some ⟨gb,0,none⟩) sn bc) (.slice ga gn gc) (S.set i (mmF y tm gid fl x)) G∧Below (k+1) W3 w'):=by
   obtain ⟨g0,nm0,t0,b0,nx0,L0,G0⟩:=x
   dsimp only at HQ
   refine changeBox_at 79 _ k y (tm+1) gb sn bc _ S G box i W3 A3.out O3.out HSN.out HN.out hiz hib (Go.Proofs.enters_of Tryz.func79 (by kernel_rfl) rfl) g0 nm0 t0 b0 nx0 L0 G0 (fun _=>hx) okx _ _ _ _ _ _ _ (fun W lo hh ma mc ga gc hb hms h0 his h1=>?_)
   subst hokx
   exact inMark_any g0 nm0 t0 b0 nx0 ma _ mc ga _ gc gid fl (tm+1) y k2 k3 w2.heap.size _ _ _ _ W (Nat.lt_of_lt_of_le (Nat.lt_trans HLk2.out A3.out.lt) hb.size) ((hb.cell (p:=⟨k2,0,none⟩) (Nat.lt_trans HLk2.out A3.out.lt)).trans ((HB3.out.cell (p:=⟨k2,0,none⟩) HLk2.out).trans HCk2.out)) (Nat.lt_of_lt_of_le (Nat.lt_trans HLk3.out A3.out.lt) hb.size) ((hb.cell (p:=⟨k3,0,none⟩) (Nat.lt_trans HLk3.out A3.out.lt)).trans ((HB3.out.cell (p:=⟨k3,0,none⟩) HLk3.out).trans HCk3.out)) (Nat.lt_of_lt_of_le ST3.out.lt hb.size) (ST3.out.later hb).cells (fun W2 hb2=>implFlag_any lo hh lo hh g0 nm0 t0 b0 nx0 ma _ mc ga _ gc L0 G0 gid fl (tm+1) y W2 HQ.out.1 rfl HQ.out.2.1 HQ.out.2.2.1 (hms.later hb2) h0 rfl HQ.out.2.2.2 (his.later hb2) h1)
  have HE:Hid ((chB S box (mmK y tm gid fl) (mmF y tm gid fl)).1=okx):=by show _=_;rw [HCB.out,← hokx]
  have HF:Hid ((chB S box (mmK y tm gid fl) (mmF y tm gid fl)).2=S.set i (mmF y tm gid fl x)):=by show _=_;rw [HCB.out]
  clear hcb hmem hokx hx hiz
  go_wp2_with fail
  refine HCC.out.mono ?_;rintro e w4 ⟨rfl,hsx4,hot4,hb4⟩
  have HB4:Hid (Below k w w4):=HB3.out.trans (hb4.mono (by omega))
  have A4:=hid hsx4
  have O4:=hid hot4
  clear hb4 hsx4 hot4 HCC
  go_wp2
  go_ret
  exact ⟨by rw [HE.out];rfl,fun _=>⟨_,_,A4.out,by rw [HF.out];exact O4.out⟩,HB4.out⟩
set_option maxHeartbeats 3200000 in
set_option maxRecDepth 100000 in
theorem dropOut_any (k:Nat) (y tm:Int) (bv gv:Value) (S:List X7) (G:List Int) (box gid:Int) (k1 k2:Nat) (w:World) (h:Sx w k 27 y tm bv gv) (ho:OwT w (k+1) bv gv S G) (hn:S.length≤1048576) (hsb:Sb S) (hgn:G.length≤1048576) (_ht:0≤tm∧tm≤100000) (hk1:k1<k) (ck1:w.cell? ⟨k1,0,none⟩=some (.int .i64 box)) (hk2:k2<k) (ck2:w.cell? ⟨k2,0,none⟩=some (.int .i64 gid)) :
  Calls Tryz.prog 82 #[.pointer (some ⟨k,0,none⟩),.pointer (some ⟨k1,0,none⟩),.pointer (some ⟨k2,0,none⟩)] w fun e w'=>e=.returned (.bool (chB S box (dmK gid) (dmF gid)).1)∧((chB S box (dmK gid) (dmF gid)).1=true→∃ bv' gv',Sx w' k 27 y (tm) bv' gv'∧OwT w' (k+1) bv' gv' (chB S box (dmK gid) (dmF gid)).2 G)∧Below k w w':=by
 obtain ⟨sn,hsn⟩:∃ sn,S.length=sn:=⟨_,rfl⟩
 obtain ⟨gn,hgn'⟩:∃ gn,G.length=gn:=⟨_,rfl⟩
 obtain ⟨ba,bc,ga,gc,hv1,hv2⟩:=ho.shape
 rw [hsn] at hv1
 rw [hgn'] at hv2
 subst hv1
 subst hv2
 have hrd:=ho.reads.2.2.1
 have hrg:=ho.reads.2.2.2
 have c0:=h.cells
 have hkl:=h.lt
 have HKL:=hid hkl
 have A0:=hid h
 have O0:=hid ho
 have HRD:=hid hrd
 have HRG:=hid hrg
 have HSB:=hid hsb
 have HSN:=hid hsn
 have HGN:=hid hgn'
 rw [hsn] at hn
 rw [hgn'] at hgn
 have HN:=hid hn
 have HG:=hid hgn
 have HCk1:=hid ck1
 have HLk1:=hid hk1
 have HCk2:=hid ck2
 have HLk2:=hid hk2
 clear h ho hrd hrg hsb hsn hgn' hgn hkl hk1 hk2
 go_enter Tryz.func82,Tryz.ntmps82
 have HB1:Hid (Below w.heap.size w w):=bre _
 clear c0 ck1 ck2
 have A1:=hid (A0.out.later HB1.out)
 have O1:=hid (O0.out.later HB1.out)
 obtain ⟨W3,hW3⟩:∃ W3,w=W3:=⟨_,rfl⟩
 subst hW3
 have A3:=A1
 have O3:=O1
 have HB3:Hid (Below k w w):=Below.refl _ _
 have dk1:=(HB3.out.cell (p:=⟨k1,0,none⟩) HLk1.out).trans HCk1.out
 have dk2:=(HB3.out.cell (p:=⟨k2,0,none⟩) HLk2.out).trans HCk2.out
 have hrd3:=O3.out.reads.2.2.1
 have HRD3:=hid hrd3
 clear hrd3 HRD HRG A0 O0
 rcases fidx_cases (isG box) S 0 with hneg | ⟨i,hi,hiz,_⟩
 ·have HE:Hid ((chB S box (dmK gid) (dmF gid)).1=false):=by show _=_;rw [chB_no hneg]
  have HCC:=hid (changeBox_no 83 #[.pointer (some ⟨k2,0,none⟩)] _ _ k y (tm) ba sn bc (.slice ga gn gc) S box w A3.out HSN.out HN.out HRD3.out hneg)
  clear hneg
  go_wp2_with fail
  refine HCC.out.mono ?_;rintro e w4 ⟨rfl,hb4⟩
  have HB4:Hid (Below k w w4):=HB3.out.trans (hb4.mono (Nat.le_of_lt A3.out.lt))
  clear hb4 HCC
  go_wp2
  go_ret
  exact ⟨by rw [HE.out];rfl,(fun h=>by rw [HE.out] at h;cases h),HB4.out⟩
 ·rw [Nat.zero_add] at hiz
  obtain ⟨gb,rfl⟩:=O3.out.addr hi
  obtain ⟨x,hx⟩:∃ x,S[i]=x:=⟨_,rfl⟩
  have hcb:=chB_at (ok:=dmK gid) (f:=dmF gid) hiz hi hx
  have hmem:=HSB.out S[i] (List.getElem_mem hi)
  rw [hx] at hmem
  have HQ:=hid hmem
  have HCB:=hid hcb
  have hib:i<sn:=by rw [← HSN.out];exact hi
  obtain ⟨okx,hokx⟩:∃ okx,dmK gid x=okx:=⟨_,rfl⟩
  have HCC:Hid (Calls Tryz.prog 49 #[.pointer (some ⟨k,0,none⟩),.int .i64 box,.func (.func 83) #[] #[.pointer (some ⟨k2,0,none⟩)]] w fun e w'=>e=.returned (.bool okx)∧Sx w' k 27 y (tm) (.slice (some ⟨gb,0,none⟩) sn bc) (.slice ga gn gc)∧OwT w' (k+1) (.slice (some ⟨gb,0,none⟩) sn bc) (.slice ga gn gc) (S.set i (dmF gid x)) G∧Below (k+1) w w'):=by
   obtain ⟨g0,nm0,t0,b0,nx0,L0,G0⟩:=x
   dsimp only at HQ
   refine changeBox_at 83 _ k y (tm) gb sn bc _ S G box i w A3.out O3.out HSN.out HN.out hiz hib (Go.Proofs.enters_of Tryz.func83 (by kernel_rfl) rfl) g0 nm0 t0 b0 nx0 L0 G0 (fun _=>hx) okx _ _ _ _ _ _ _ (fun W lo hh ma mc ga gc hb hms h0 his h1=>?_)
   subst hokx
   exact inDrop_any g0 nm0 t0 b0 nx0 ma _ mc ga _ gc gid k2 _ _ _ _ W (Nat.lt_of_lt_of_le (Nat.lt_trans HLk2.out A3.out.lt) hb.size) ((hb.cell (p:=⟨k2,0,none⟩) (Nat.lt_trans HLk2.out A3.out.lt)).trans ((HB3.out.cell (p:=⟨k2,0,none⟩) HLk2.out).trans HCk2.out)) (fun W2 hb2=>implTake_any lo hh lo hh g0 nm0 t0 b0 nx0 ma _ mc ga _ gc L0 G0 gid W2 HQ.out.1 rfl HQ.out.2.1 HQ.out.2.2.1 (hms.later hb2) h0 rfl HQ.out.2.2.2 (his.later hb2) h1)
  have HE:Hid ((chB S box (dmK gid) (dmF gid)).1=okx):=by show _=_;rw [HCB.out,← hokx]
  have HF:Hid ((chB S box (dmK gid) (dmF gid)).2=S.set i (dmF gid x)):=by show _=_;rw [HCB.out]
  clear hcb hmem hokx hx hiz
  go_wp2_with fail
  refine HCC.out.mono ?_;rintro e w4 ⟨rfl,hsx4,hot4,hb4⟩
  have HB4:Hid (Below k w w4):=HB3.out.trans (hb4.mono (by omega))
  have A4:=hid hsx4
  have O4:=hid hot4
  clear hb4 hsx4 hot4 HCC
  go_wp2
  go_ret
  exact ⟨by rw [HE.out];rfl,fun _=>⟨_,_,A4.out,by rw [HF.out];exact O4.out⟩,HB4.out⟩
set_option maxHeartbeats 1600000 in
set_option maxRecDepth 100000 in
theorem implPutM_any (lo hh lo' hh':Nat) (y tm:Int) (ba:Option Addr) (bn bc:Nat) (ga:Option Addr) (gn gc:Nat) (S:List X7) (G:List Int) (box gid fl:Int) (tx:ByteArray) (w:World) (hl:S.length=bn) (hn:bn≤1048576) (hsb:Sb S) (hm:Bs lo hh w ba S) (hm0:ba=none→bc=0) (hgl:G.length=gn) (hgn:gn≤1048576) (hs:Is lo' hh' w ga G) (hg0:ga=none→gc=0) (htx:tx.size≤1048576)
  (ok2:Bool) (h2:(sOk y tm S G&&((!kno gid S G&&(chB S box (pmK y tm gid fl tx) (pmF y tm gid fl tx)).1)&&sOk y (tm+1) (chB S box (pmK y tm gid fl tx) (pmF y tm gid fl tx)).2 G))=ok2) :
  Calls Tryz.prog 10 #[.agg #[.int .i64 y,.int .i64 tm,.slice ba bn bc,.slice ga gn gc],.int .i64 box,.int .i64 gid,.int .i64 fl,.string tx] w fun e w'=>∃ bv gv,e=.returned (.tuple #[.agg #[.int .i64 y,.int .i64 (pik ok2 (tm+1) tm),bv,gv],.bool ok2])∧OwT w' w.heap.size bv gv (pik ok2 (chB S box (pmK y tm gid fl tx) (pmF y tm gid fl tx)).2 S) (pik ok2 G G)∧Below w.heap.size w w':=by
 obtain ⟨W0,hW0⟩:∃ W0,(((((w.alloc (.cells #[.int .i64 y,.int .i64 tm,.slice ba bn bc,.slice ga gn gc] 27)).alloc (.cells #[.int .i64 box] 3)).alloc (.cells #[.int .i64 gid] 3)).alloc (.cells #[.int .i64 fl] 3)).alloc (.cells #[.string tx] 9)).alloc (.cells #[.int .i64 0,.int .i64 0,.slice none 0 0,.slice none 0 0] 27)=W0:=⟨_,rfl⟩
 obtain ⟨a0,c1,c2,c3,c4,r0,b0,s0⟩:=store_caps4 w _ _ _ _ _ _ _ _ _ _ _ _ _ _ _ _ _ _ W0 hW0
 have c0:=a0.cells
 have C1:=hid c1
 have C2:=hid c2
 have C3:=hid c3
 have C4:=hid c4
 have R0:=hid r0
 have B0:=hid b0
 have S0:=hid s0
 have HSB:=hid hsb
 have HL:=hid hl
 obtain ⟨S1,hS1⟩:∃ S1,(chB S box (pmK y tm gid fl tx) (pmF y tm gid fl tx)).2=S1:=⟨_,rfl⟩
 obtain ⟨t1,ht1⟩:∃ t1,pik ok2 (tm+1) tm=t1:=⟨_,rfl⟩
 have HCC:Hid (Calls Tryz.prog 40 #[.agg #[.int .i64 y,.int .i64 tm,.slice ba bn bc,.slice ga gn gc],.func (.func 48) #[] #[.pointer (some ⟨w.heap.size+1+1,0,none⟩),.pointer (some ⟨w.heap.size+1,0,none⟩),.pointer (some ⟨w.heap.size+1+1+1,0,none⟩),.pointer (some ⟨w.heap.size+1+1+1+1,0,none⟩)]] W0 fun e w'=>∃ bv gv,e=.returned (.tuple #[.agg #[.int .i64 y,.int .i64 t1,bv,gv],.bool ok2])∧OwT w' W0.heap.size bv gv (pik ok2 S1 S) (pik ok2 G G)∧Below W0.heap.size W0 w'):=by
  rw [← ht1,← hS1]
  refine changed_any 48 _ _ (tm+1) (chB S box (pmK y tm gid fl tx) (pmF y tm gid fl tx)).2 G lo hh lo' hh' y tm ba bn bc ga gn gc S G W0 hl hn hsb (hm.later b0) hm0 hgl hgn (hs.later b0) hg0 (Go.Proofs.enters_of Tryz.func48 (by kernel_rfl) rfl) (fun hok W k bv gv hk hb hsx hot=>?_) (fun hok hok0=>?_) ok2 h2
  ·have htm:=sOk_tm hok
   exact putOut_any k y tm bv gv S G box gid fl tx (w.heap.size+1+1) (w.heap.size+1) (w.heap.size+1+1+1) (w.heap.size+1+1+1+1) W hsx hot (by omega) hsb (by omega) htm htx (by have:=S0.out;omega) ((hb.cell (p:=⟨w.heap.size+1+1,0,none⟩) (by have:=S0.out;show w.heap.size+1+1<W0.heap.size;omega)).trans C2.out) (by have:=S0.out;omega) ((hb.cell (p:=⟨w.heap.size+1,0,none⟩) (by have:=S0.out;show w.heap.size+1<W0.heap.size;omega)).trans C1.out) (by have:=S0.out;omega) ((hb.cell (p:=⟨w.heap.size+1+1+1,0,none⟩) (by have:=S0.out;show w.heap.size+1+1+1<W0.heap.size;omega)).trans C3.out) (by have:=S0.out;omega) ((hb.cell (p:=⟨w.heap.size+1+1+1+1,0,none⟩) (by have:=S0.out;show w.heap.size+1+1+1+1<W0.heap.size;omega)).trans C4.out)
  ·rcases fidx_cases (isG box) S 0 with hneg | ⟨i,hi,hiz,_⟩
   ·rw [chB_no hneg]
    dsimp only
    exact ⟨hsb,by omega,by omega⟩
   ·rw [Nat.zero_add] at hiz
    rw [chB_at hiz hi rfl]
    dsimp only
    have hx:=hsb S[i] (List.getElem_mem hi)
    refine ⟨sb_set hsb i (pm_small hx htx),by rw [List.length_set];omega,by omega⟩
 clear a0 r0 b0 s0 hsb hm hm0 hgl hgn hs hg0 h2 c1 c2 c3 c4
 rw [hS1]
 go_enter Tryz.func10,Tryz.ntmps10
 go_wp2_with fail
 clear hW0
 refine HCC.out.mono ?_;rintro e w8 ⟨bv,gv,rfl,hot,hb8⟩
 obtain ⟨a8,c8,a9,c9,hv8,hv9⟩:=hot.shape
 obtain ⟨n8,hn8⟩:∃ n8,(pik ok2 S1 S).length=n8:=⟨_,rfl⟩
 obtain ⟨n9,hn9⟩:∃ n9,(pik ok2 G G).length=n9:=⟨_,rfl⟩
 rw [hn8] at hv8
 rw [hn9] at hv9
 subst hv8
 subst hv9
 have r8:=R0.out.later hb8
 have q1:=r8.cells
 have q2:=r8.loose
 have R8:=hid r8
 have O8:=hid hot
 have B8:=hid (btr B0.out hb8)
 have HT:=hid ht1
 clear r8 hot hb8 hn8 hn9 HCC ht1 hS1
 go_wp2
 have e2:=put4_grown w8 (w.heap.size+1+1+1+1+1) y t1 (.slice a8 n8 c8) (.slice a9 n9 c9)
 have d1:=(R8.out.put4 y t1 (.slice a8 n8 c8) (.slice a9 n9 c9)).cells
 unfold put4 at d1 e2
 have hs0:=S0.out
 refine bodyPost_ret (v:=.tuple #[.agg #[.int .i64 y,.int .i64 t1,.slice a8 n8 c8,.slice a9 n9 c9],.bool ok2]) (by simp [results,Tryz.results10,go_sem,d1]) rfl ⟨_,_,by rw [HT.out],?_,?_⟩
 ·exact (O8.out.grown e2 (by omega)).base (by omega)
 ·exact B8.out.trans (below_of_grown e2 (by omega) B8.out.size)
set_option maxHeartbeats 1600000 in
set_option maxRecDepth 100000 in
theorem implMarkM_any (lo hh lo' hh':Nat) (y tm:Int) (ba:Option Addr) (bn bc:Nat) (ga:Option Addr) (gn gc:Nat) (S:List X7) (G:List Int) (box gid fl:Int) (w:World) (hl:S.length=bn) (hn:bn≤1048576) (hsb:Sb S) (hm:Bs lo hh w ba S) (hm0:ba=none→bc=0) (hgl:G.length=gn) (hgn:gn≤1048576) (hs:Is lo' hh' w ga G) (hg0:ga=none→gc=0)
  (ok2:Bool) (h2:(sOk y tm S G&&((chB S box (mmK y tm gid fl) (mmF y tm gid fl)).1&&sOk y (tm+1) (chB S box (mmK y tm gid fl) (mmF y tm gid fl)).2 G))=ok2) :
  Calls Tryz.prog 27 #[.agg #[.int .i64 y,.int .i64 tm,.slice ba bn bc,.slice ga gn gc],.int .i64 box,.int .i64 gid,.int .i64 fl] w fun e w'=>∃ bv gv,e=.returned (.tuple #[.agg #[.int .i64 y,.int .i64 (pik ok2 (tm+1) tm),bv,gv],.bool ok2])∧OwT w' w.heap.size bv gv (pik ok2 (chB S box (mmK y tm gid fl) (mmF y tm gid fl)).2 S) (pik ok2 G G)∧Below w.heap.size w w':=by
 obtain ⟨W0,hW0⟩:∃ W0,((((w.alloc (.cells #[.int .i64 y,.int .i64 tm,.slice ba bn bc,.slice ga gn gc] 27)).alloc (.cells #[.int .i64 box] 3)).alloc (.cells #[.int .i64 gid] 3)).alloc (.cells #[.int .i64 fl] 3)).alloc (.cells #[.int .i64 0,.int .i64 0,.slice none 0 0,.slice none 0 0] 27)=W0:=⟨_,rfl⟩
 obtain ⟨a0,c1,c2,c3,r0,b0,s0⟩:=store_caps3 w _ _ _ _ _ _ _ _ _ _ _ _ _ _ _ _ W0 hW0
 have c0:=a0.cells
 have C1:=hid c1
 have C2:=hid c2
 have C3:=hid c3
 have R0:=hid r0
 have B0:=hid b0
 have S0:=hid s0
 have HSB:=hid hsb
 have HL:=hid hl
 obtain ⟨S1,hS1⟩:∃ S1,(chB S box (mmK y tm gid fl) (mmF y tm gid fl)).2=S1:=⟨_,rfl⟩
 obtain ⟨t1,ht1⟩:∃ t1,pik ok2 (tm+1) tm=t1:=⟨_,rfl⟩
 have HCC:Hid (Calls Tryz.prog 40 #[.agg #[.int .i64 y,.int .i64 tm,.slice ba bn bc,.slice ga gn gc],.func (.func 78) #[] #[.pointer (some ⟨w.heap.size+1,0,none⟩),.pointer (some ⟨w.heap.size+1+1,0,none⟩),.pointer (some ⟨w.heap.size+1+1+1,0,none⟩)]] W0 fun e w'=>∃ bv gv,e=.returned (.tuple #[.agg #[.int .i64 y,.int .i64 t1,bv,gv],.bool ok2])∧OwT w' W0.heap.size bv gv (pik ok2 S1 S) (pik ok2 G G)∧Below W0.heap.size W0 w'):=by
  rw [← ht1,← hS1]
  refine changed_any 78 _ _ (tm+1) (chB S box (mmK y tm gid fl) (mmF y tm gid fl)).2 G lo hh lo' hh' y tm ba bn bc ga gn gc S G W0 hl hn hsb (hm.later b0) hm0 hgl hgn (hs.later b0) hg0 (Go.Proofs.enters_of Tryz.func78 (by kernel_rfl) rfl) (fun hok W k bv gv hk hb hsx hot=>?_) (fun hok hok0=>?_) ok2 h2
  ·have htm:=sOk_tm hok
   exact markOut_any k y tm bv gv S G box gid fl (w.heap.size+1) (w.heap.size+1+1) (w.heap.size+1+1+1) W hsx hot (by omega) hsb (by omega) htm (by have:=S0.out;omega) ((hb.cell (p:=⟨w.heap.size+1,0,none⟩) (by have:=S0.out;show w.heap.size+1<W0.heap.size;omega)).trans C1.out) (by have:=S0.out;omega) ((hb.cell (p:=⟨w.heap.size+1+1,0,none⟩) (by have:=S0.out;show w.heap.size+1+1<W0.heap.size;omega)).trans C2.out) (by have:=S0.out;omega) ((hb.cell (p:=⟨w.heap.size+1+1+1,0,none⟩) (by have:=S0.out;show w.heap.size+1+1+1<W0.heap.size;omega)).trans C3.out)
  ·rcases fidx_cases (isG box) S 0 with hneg | ⟨i,hi,hiz,_⟩
   ·rw [chB_no hneg]
    dsimp only
    exact ⟨hsb,by omega,by omega⟩
   ·rw [Nat.zero_add] at hiz
    rw [chB_at hiz hi rfl]
    dsimp only
    have hx:=hsb S[i] (List.getElem_mem hi)
    refine ⟨sb_set hsb i (mm_small hx),by rw [List.length_set];omega,by omega⟩
 clear a0 r0 b0 s0 hsb hm hm0 hgl hgn hs hg0 h2 c1 c2 c3
 rw [hS1]
 go_enter Tryz.func27,Tryz.ntmps27
 go_wp2_with fail
 clear hW0
 refine HCC.out.mono ?_;rintro e w8 ⟨bv,gv,rfl,hot,hb8⟩
 obtain ⟨a8,c8,a9,c9,hv8,hv9⟩:=hot.shape
 obtain ⟨n8,hn8⟩:∃ n8,(pik ok2 S1 S).length=n8:=⟨_,rfl⟩
 obtain ⟨n9,hn9⟩:∃ n9,(pik ok2 G G).length=n9:=⟨_,rfl⟩
 rw [hn8] at hv8
 rw [hn9] at hv9
 subst hv8
 subst hv9
 have r8:=R0.out.later hb8
 have q1:=r8.cells
 have q2:=r8.loose
 have R8:=hid r8
 have O8:=hid hot
 have B8:=hid (btr B0.out hb8)
 have HT:=hid ht1
 clear r8 hot hb8 hn8 hn9 HCC ht1 hS1
 go_wp2
 have e2:=put4_grown w8 (w.heap.size+1+1+1+1) y t1 (.slice a8 n8 c8) (.slice a9 n9 c9)
 have d1:=(R8.out.put4 y t1 (.slice a8 n8 c8) (.slice a9 n9 c9)).cells
 unfold put4 at d1 e2
 have hs0:=S0.out
 refine bodyPost_ret (v:=.tuple #[.agg #[.int .i64 y,.int .i64 t1,.slice a8 n8 c8,.slice a9 n9 c9],.bool ok2]) (by simp [results,Tryz.results27,go_sem,d1]) rfl ⟨_,_,by rw [HT.out],?_,?_⟩
 ·exact (O8.out.grown e2 (by omega)).base (by omega)
 ·exact B8.out.trans (below_of_grown e2 (by omega) B8.out.size)
set_option maxHeartbeats 1600000 in
set_option maxRecDepth 100000 in
theorem implDropM_any (lo hh lo' hh':Nat) (y tm:Int) (ba:Option Addr) (bn bc:Nat) (ga:Option Addr) (gn gc:Nat) (S:List X7) (G:List Int) (box gid:Int) (w:World) (hl:S.length=bn) (hn:bn≤1048576) (hsb:Sb S) (hm:Bs lo hh w ba S) (hm0:ba=none→bc=0) (hgl:G.length=gn) (hgn:gn≤1048576) (hs:Is lo' hh' w ga G) (hg0:ga=none→gc=0)
  (ok2:Bool) (h2:(sOk y tm S G&&((chB S box (dmK gid) (dmF gid)).1&&sOk y (tm) (chB S box (dmK gid) (dmF gid)).2 G))=ok2) :
  Calls Tryz.prog 29 #[.agg #[.int .i64 y,.int .i64 tm,.slice ba bn bc,.slice ga gn gc],.int .i64 box,.int .i64 gid] w fun e w'=>∃ bv gv,e=.returned (.tuple #[.agg #[.int .i64 y,.int .i64 (pik ok2 (tm) tm),bv,gv],.bool ok2])∧OwT w' w.heap.size bv gv (pik ok2 (chB S box (dmK gid) (dmF gid)).2 S) (pik ok2 G G)∧Below w.heap.size w w':=by
 obtain ⟨W0,hW0⟩:∃ W0,(((w.alloc (.cells #[.int .i64 y,.int .i64 tm,.slice ba bn bc,.slice ga gn gc] 27)).alloc (.cells #[.int .i64 box] 3)).alloc (.cells #[.int .i64 gid] 3)).alloc (.cells #[.int .i64 0,.int .i64 0,.slice none 0 0,.slice none 0 0] 27)=W0:=⟨_,rfl⟩
 obtain ⟨a0,c1,c2,r0,b0,s0⟩:=store_caps2 w _ _ _ _ _ _ _ _ _ _ _ _ _ _ W0 hW0
 have c0:=a0.cells
 have C1:=hid c1
 have C2:=hid c2
 have R0:=hid r0
 have B0:=hid b0
 have S0:=hid s0
 have HSB:=hid hsb
 have HL:=hid hl
 obtain ⟨S1,hS1⟩:∃ S1,(chB S box (dmK gid) (dmF gid)).2=S1:=⟨_,rfl⟩
 obtain ⟨t1,ht1⟩:∃ t1,pik ok2 (tm) tm=t1:=⟨_,rfl⟩
 have HCC:Hid (Calls Tryz.prog 40 #[.agg #[.int .i64 y,.int .i64 tm,.slice ba bn bc,.slice ga gn gc],.func (.func 82) #[] #[.pointer (some ⟨w.heap.size+1,0,none⟩),.pointer (some ⟨w.heap.size+1+1,0,none⟩)]] W0 fun e w'=>∃ bv gv,e=.returned (.tuple #[.agg #[.int .i64 y,.int .i64 t1,bv,gv],.bool ok2])∧OwT w' W0.heap.size bv gv (pik ok2 S1 S) (pik ok2 G G)∧Below W0.heap.size W0 w'):=by
  rw [← ht1,← hS1]
  refine changed_any 82 _ _ (tm) (chB S box (dmK gid) (dmF gid)).2 G lo hh lo' hh' y tm ba bn bc ga gn gc S G W0 hl hn hsb (hm.later b0) hm0 hgl hgn (hs.later b0) hg0 (Go.Proofs.enters_of Tryz.func82 (by kernel_rfl) rfl) (fun hok W k bv gv hk hb hsx hot=>?_) (fun hok hok0=>?_) ok2 h2
  ·have htm:=sOk_tm hok
   exact dropOut_any k y tm bv gv S G box gid (w.heap.size+1) (w.heap.size+1+1) W hsx hot (by omega) hsb (by omega) htm (by have:=S0.out;omega) ((hb.cell (p:=⟨w.heap.size+1,0,none⟩) (by have:=S0.out;show w.heap.size+1<W0.heap.size;omega)).trans C1.out) (by have:=S0.out;omega) ((hb.cell (p:=⟨w.heap.size+1+1,0,none⟩) (by have:=S0.out;show w.heap.size+1+1<W0.heap.size;omega)).trans C2.out)
  ·rcases fidx_cases (isG box) S 0 with hneg | ⟨i,hi,hiz,_⟩
   ·rw [chB_no hneg]
    dsimp only
    exact ⟨hsb,by omega,by omega⟩
   ·rw [Nat.zero_add] at hiz
    rw [chB_at hiz hi rfl]
    dsimp only
    have hx:=hsb S[i] (List.getElem_mem hi)
    refine ⟨sb_set hsb i (dm_small hx),by rw [List.length_set];omega,by omega⟩
 clear a0 r0 b0 s0 hsb hm hm0 hgl hgn hs hg0 h2 c1 c2
 rw [hS1]
 go_enter Tryz.func29,Tryz.ntmps29
 go_wp2_with fail
 clear hW0
 refine HCC.out.mono ?_;rintro e w8 ⟨bv,gv,rfl,hot,hb8⟩
 obtain ⟨a8,c8,a9,c9,hv8,hv9⟩:=hot.shape
 obtain ⟨n8,hn8⟩:∃ n8,(pik ok2 S1 S).length=n8:=⟨_,rfl⟩
 obtain ⟨n9,hn9⟩:∃ n9,(pik ok2 G G).length=n9:=⟨_,rfl⟩
 rw [hn8] at hv8
 rw [hn9] at hv9
 subst hv8
 subst hv9
 have r8:=R0.out.later hb8
 have q1:=r8.cells
 have q2:=r8.loose
 have R8:=hid r8
 have O8:=hid hot
 have B8:=hid (btr B0.out hb8)
 have HT:=hid ht1
 clear r8 hot hb8 hn8 hn9 HCC ht1 hS1
 go_wp2
 have e2:=put4_grown w8 (w.heap.size+1+1+1) y t1 (.slice a8 n8 c8) (.slice a9 n9 c9)
 have d1:=(R8.out.put4 y t1 (.slice a8 n8 c8) (.slice a9 n9 c9)).cells
 unfold put4 at d1 e2
 have hs0:=S0.out
 refine bodyPost_ret (v:=.tuple #[.agg #[.int .i64 y,.int .i64 t1,.slice a8 n8 c8,.slice a9 n9 c9],.bool ok2]) (by simp [results,Tryz.results29,go_sem,d1]) rfl ⟨_,_,by rw [HT.out],?_,?_⟩
 ·exact (O8.out.grown e2 (by omega)).base (by omega)
 ·exact B8.out.trans (below_of_grown e2 (by omega) B8.out.size)
end Go.Proofs.YtkbecgcbheopnaaGreat
