/- Utc. -/

import Derived.Test.YtkbecgcbheopnaaGreatdUtb
namespace Go.Proofs.YtkbecgcbheopnaaGreat
open Go.RowKit Go.ChangeMaps
def Tz (W:World) (ba:Option Addr) (bn bc:Nat) (ga:Option Addr) (gn gc:Nat) (S:List X7) (G:List Int):Prop:=∃ lo hi,Tg W lo hi ba bn bc ga gn gc S G
section
variable {W W':World} {lo hi:Nat} {ba:Option Addr} {bn bc:Nat} {ga:Option Addr} {gn gc:Nat} {S:List X7} {G:List Int}
theorem Tg.tz (h:Tg W lo hi ba bn bc ga gn gc S G):Tz W ba bn bc ga gn gc S G:=⟨lo,hi,h⟩
theorem Tz.later (h:Tz W ba bn bc ga gn gc S G) (hb:Below W.heap.size W W'):Tz W' ba bn bc ga gn gc S G:=by
 obtain ⟨lo,hi,h⟩:=h
 exact ⟨lo,hi,h.later hb⟩
theorem Tz.len (h:Tz W ba bn bc ga gn gc S G):S.length=bn:=by obtain ⟨_,_,h⟩:=h;exact h.len
theorem Tz.most (h:Tz W ba bn bc ga gn gc S G):bn≤1048576:=by obtain ⟨_,_,h⟩:=h;exact h.most
theorem Tz.sb (h:Tz W ba bn bc ga gn gc S G):Sb S:=by obtain ⟨_,_,h⟩:=h;exact h.sb
theorem Tz.glen (h:Tz W ba bn bc ga gn gc S G):G.length=gn:=by obtain ⟨_,_,h⟩:=h;exact h.glen
theorem Tz.gmost (h:Tz W ba bn bc ga gn gc S G):gn≤1048576:=by obtain ⟨_,_,h⟩:=h;exact h.gmost
theorem Tz.use {P:Prop} (h:Tz W ba bn bc ga gn gc S G) (f:∀ lo hi,Tg W lo hi ba bn bc ga gn gc S G→P):P:=by obtain ⟨lo,hi,h⟩:=h;exact f lo hi h
end
theorem ints5 {W:World} {k e:Nat} {a b c d f:Int} (h:W.heap[k]?=some (.cells #[.int .i64 a,.int .i64 b,.int .i64 c,.int .i64 d,.int .i64 f] e (0,0))):∀ i (h:i<[a,b,c,d,f].length),W.cell? ⟨k,i,none⟩=some (.int .i64 [a,b,c,d,f][i]):=by
 intro i hi
 have h2:i=0∨i=1∨i=2∨i=3∨i=4:=by simp at hi;omega
 rcases h2 with rfl | rfl | rfl | rfl | rfl
 ·exact cell_of_row _ _ 0 _ _ _ h
 ·exact cell_of_row _ _ 1 _ _ _ h
 ·exact cell_of_row _ _ 2 _ _ _ h
 ·exact cell_of_row _ _ 3 _ _ _ h
 ·exact cell_of_row _ _ 4 _ _ _ h
theorem nm_a4 {nm:ByteArray} (h:nm∈([⟨#[105,110,98,111,120]⟩,⟨#[119,111,114,107]⟩,⟨#[110,101,119]⟩,⟨#[65]⟩]:List ByteArray)):nm.size≤1048576:=by
 simp only [List.mem_cons,List.not_mem_nil,or_false] at h
 rcases h with rfl | rfl | rfl | rfl <;> decide
theorem dr_end {f:Func} {w W:World} {hi:Nat} {y tm:Int} {ba:Option Addr} {bn bc:Nat} {ga:Option Addr} {gn gc:Nat} {S:List X7} {G:List Int} {a:Act} {v:Value} {Q:Ending→World→Prop} (res:Sx W w.heap.size 27 0 0 (.slice none 0 0) (.slice none 0 0)) (tg:Tg W (w.heap.size+1) hi ba bn bc ga gn gc S G) (be:Below w.heap.size w W)
  (hQ:∀ W',Tz W' ba bn bc ga gn gc S G→Below w.heap.size w W'→Q (.returned v) W')
  (hres:∀ W',W'=((((W.setCell ⟨w.heap.size,0,none⟩ (.int .i64 y)).setCell ⟨w.heap.size,1,none⟩ (.int .i64 tm)).setCell ⟨w.heap.size,2,none⟩ (.slice ba bn bc)).setCell ⟨w.heap.size,3,none⟩ (.slice ga gn gc))→(W'.cell? ⟨w.heap.size,0,none⟩=some (.int .i64 y)∧W'.cell? ⟨w.heap.size,1,none⟩=some (.int .i64 tm)∧W'.cell? ⟨w.heap.size,2,none⟩=some (.slice ba bn bc)∧W'.cell? ⟨w.heap.size,3,none⟩=some (.slice ga gn gc))→(results f a.tmps).run Tryz.prog W'=.ok v W') (hdef:a.defers=[]:=by rfl) :
  bodyPost Tryz.prog f Q Exit.ret a ((((W.setCell ⟨w.heap.size,0,none⟩ (.int .i64 y)).setCell ⟨w.heap.size,1,none⟩ (.int .i64 tm)).setCell ⟨w.heap.size,2,none⟩ (.slice ba bn bc)).setCell ⟨w.heap.size,3,none⟩ (.slice ga gn gc)):=by
 have e2:=put4_grown W w.heap.size y tm (.slice ba bn bc) (.slice ga gn gc)
 have d1:=(res.put4 y tm (.slice ba bn bc) (.slice ga gn gc)).cells
 unfold put4 at d1 e2
 exact bodyPost_ret (hres _ rfl d1) hdef (hQ _ (tg.far e2 (.inl (Nat.lt_succ_self _))).tz (be.trans (only_below e2 (Nat.le_refl _) be.size)))
def Store7 (w:World) (e:Ending) (w':World):Prop:=∃ (y tm:Int) (ba:Option Addr) (bn bc:Nat) (ga:Option Addr) (gn gc:Nat) (S:List X7) (G:List Int),e=.returned (.agg #[.int .i64 y,.int .i64 tm,.slice ba bn bc,.slice ga gn gc])∧(-1≤tm∧tm≤100001)∧Tz w' ba bn bc ga gn gc S G∧Below w.heap.size w w'
def Two7 (w:World) (e:Ending) (w':World):Prop:=∃ (y tm:Int) (ba:Option Addr) (bn bc:Nat) (ga:Option Addr) (gn gc:Nat) (S:List X7) (G:List Int) (x:Int),e=.returned (.tuple #[.agg #[.int .i64 y,.int .i64 tm,.slice ba bn bc,.slice ga gn gc],.int .i64 x])∧(-1≤tm∧tm≤100001)∧Tz w' ba bn bc ga gn gc S G∧Below w.heap.size w w'
def Three7 (w:World) (e:Ending) (w':World):Prop:=∃ (y tm:Int) (ba:Option Addr) (bn bc:Nat) (ga:Option Addr) (gn gc:Nat) (S:List X7) (G:List Int) (x z:Int),e=.returned (.tuple #[.agg #[.int .i64 y,.int .i64 tm,.slice ba bn bc,.slice ga gn gc],.int .i64 x,.int .i64 z])∧(-1≤tm∧tm≤100001)∧Tz w' ba bn bc ga gn gc S G∧Below w.heap.size w w'
def Text7 (w:World) (e:Ending) (w':World):Prop:=∃ (y tm:Int) (ba:Option Addr) (bn bc:Nat) (ga:Option Addr) (gn gc:Nat) (S:List X7) (G:List Int) (x:Int) (nm:ByteArray),e=.returned (.tuple #[.agg #[.int .i64 y,.int .i64 tm,.slice ba bn bc,.slice ga gn gc],.int .i64 x,.string nm])∧nm.size≤1048576∧(-1≤tm∧tm≤100001)∧Tz w' ba bn bc ga gn gc S G∧Below w.heap.size w w'
def Four7 (w:World) (e:Ending) (w':World):Prop:=∃ (y tm:Int) (ba:Option Addr) (bn bc:Nat) (ga:Option Addr) (gn gc:Nat) (S:List X7) (G:List Int) (x z u:Int),e=.returned (.tuple #[.agg #[.int .i64 y,.int .i64 tm,.slice ba bn bc,.slice ga gn gc],.int .i64 x,.int .i64 z,.int .i64 u])∧(-1≤tm∧tm≤100001)∧Tz w' ba bn bc ga gn gc S G∧Below w.heap.size w w'
def Five7 (w:World) (e:Ending) (w':World):Prop:=∃ (y tm:Int) (ba:Option Addr) (bn bc:Nat) (ga:Option Addr) (gn gc:Nat) (S:List X7) (G:List Int) (x z u:Int) (tx:ByteArray),e=.returned (.tuple #[.agg #[.int .i64 y,.int .i64 tm,.slice ba bn bc,.slice ga gn gc],.int .i64 x,.int .i64 z,.int .i64 u,.string tx])∧tx.size≤1048576∧(-1≤tm∧tm≤100001)∧Tz w' ba bn bc ga gn gc S G∧Below w.heap.size w w'
theorem Code.low {w W:World} {cb n:Nat} {ao:Option Addr} (h:Code w w.heap.size ao n) (hb:Below w.heap.size w W) (hc:w.heap.size≤cb):Code W cb ao n:=by
 intro hn
 obtain ⟨b,off,h1,h2,h3⟩:=h hn
 refine ⟨b,off,h1,Nat.lt_of_lt_of_le h2 hc,fun j hj=>?_⟩
 obtain ⟨z,hz,hc⟩:=h3 j hj
 exact ⟨z,hz,(cell_same (p:=⟨b,_,none⟩) (hb.block b h2)).trans hc⟩
set_option maxHeartbeats 3200000 in
set_option maxRecDepth 100000 in
theorem drawStoreOk_any (ao:Option Addr) (n cap:Nat) (w:World) (hn:n≤1048576) (hcode:Code w w.heap.size ao n) :
  Calls Tryz.prog 31 #[.slice ao n cap] w fun e w'=>Store7 w e w':=by
 have R:=hid (Sx.new w 27 0 0 (.slice none 0 0) (.slice none 0 0))
 have B:=hid (bpush (bre w) (.cells #[.int .i64 0,.int .i64 0,.slice none 0 0,.slice none 0 0] 27))
 have HO:=hid hcode
 clear hcode
 go_enter Tryz.func31,Tryz.ntmps31
 go_wp2_with fail
 refine (new_any ao n cap _ hn (HO.out.over B.out)).mono ?_;rintro e w1 ⟨rfl,hc,_,hb⟩
 have e1:(w.alloc (.cells #[.int .i64 0,.int .i64 0,.slice none 0 0,.slice none 0 0] 27)).heap.size=w.heap.size+1:=by simp
 rw [e1] at hc ⊢
 have C:=hid hc
 have R:=hid (R.out.later hb)
 have B:=hid (btr B.out hb)
 clear hc hb e1
 go_wp2_with fail
 refine (l07Any_any (w.heap.size+1) ao n cap _ hn C.out (HO.out.low B.out (Nat.le_succ _))).mono ?_;rintro e w2 ⟨hi,y,tm,ba,bn,bc,ga,gn,gc,S,G,rfl,htm,ht,hc,hg⟩
 have Z:Hid (Tg w2 (w.heap.size+2) hi ba bn bc ga gn gc S G):=ht.wide (by have h1:=C.out.lt;omega) (Nat.le_refl _) ht.top
 have R:=hid (R.out.off hg (by omega))
 have B:=hid (B.out.trans (only_below hg (by omega) B.out.size))
 have HTM:=hid htm
 clear ht htm hc hg
 have q1:=R.out.cells
 have f1:=R.out.loose
 go_wp2
 exact dr_end R.out (Z.out.wide (by omega) (Nat.le_refl _) Z.out.top) B.out (fun W' h hb=>⟨y,tm,ba,bn,bc,ga,gn,gc,S,G,rfl,HTM.out,h,hb⟩) (fun W' _ d=>by simp [results,Tryz.results31,go_sem,d])
set_option maxHeartbeats 3200000 in
set_option maxRecDepth 100000 in
theorem drawDropMail_any (ao:Option Addr) (n cap:Nat) (w:World) (hn:n≤1048576) (hcode:Code w w.heap.size ao n) :
  Calls Tryz.prog 22 #[.slice ao n cap] w fun e w'=>Three7 w e w':=by
 have R:=hid (Sx.new w 27 0 0 (.slice none 0 0) (.slice none 0 0))
 have B:=hid (bpush (bre w) (.cells #[.int .i64 0,.int .i64 0,.slice none 0 0,.slice none 0 0] 27))
 have HO:=hid hcode
 clear hcode
 go_enter Tryz.func22,Tryz.ntmps22
 go_wp2_with fail
 have HLO:Hid (w.heap.size<(w.alloc (.cells #[.int .i64 0,.int .i64 0,.slice none 0 0,.slice none 0 0] 27)).heap.size):=R.out.lt
 refine (l07Some_any ao n cap _ hn (HO.out.over B.out)).mono ?_;rintro e w1 ⟨hi,y,tm,ba,bn,bc,ga,gn,gc,S,G,box,gid,rfl,htm,ht,hb⟩
 have Z:Hid (Tg w1 (w.heap.size+1) hi ba bn bc ga gn gc S G):=ht.wide (by have:=HLO.out;omega) (Nat.le_refl _) ht.top
 have R:=hid (R.out.later hb)
 have B:=hid (btr B.out hb)
 have HTM:=hid htm
 clear ht hb htm HLO
 have q1:=R.out.cells
 have f1:=R.out.loose
 go_wp2
 exact dr_end R.out (Z.out.wide (by omega) (Nat.le_refl _) Z.out.top) B.out (fun W' h hb=>⟨y,tm,ba,bn,bc,ga,gn,gc,S,G,box,gid,rfl,HTM.out,h,hb⟩) (fun W' _ d=>by simp [results,Tryz.results22,go_sem,d])
set_option maxHeartbeats 3200000 in
set_option maxRecDepth 100000 in
theorem drawDropBox_any (ao:Option Addr) (n cap:Nat) (w:World) (hn:n≤1048576) (hcode:Code w w.heap.size ao n) :
  Calls Tryz.prog 19 #[.slice ao n cap] w fun e w'=>Two7 w e w':=by
 have R:=hid (Sx.new w 27 0 0 (.slice none 0 0) (.slice none 0 0))
 have B:=hid (bpush (bre w) (.cells #[.int .i64 0,.int .i64 0,.slice none 0 0,.slice none 0 0] 27))
 have HO:=hid hcode
 clear hcode
 go_enter Tryz.func19,Tryz.ntmps19
 go_wp2_with fail
 have HLO:Hid (w.heap.size<(w.alloc (.cells #[.int .i64 0,.int .i64 0,.slice none 0 0,.slice none 0 0] 27)).heap.size):=R.out.lt
 refine (l07Some_any ao n cap _ hn (HO.out.over B.out)).mono ?_;rintro e w1 ⟨hi,y,tm,ba,bn,bc,ga,gn,gc,S,G,box,gid,rfl,htm,ht,hb⟩
 have Z:Hid (Tg w1 (w.heap.size+1) hi ba bn bc ga gn gc S G):=ht.wide (by have:=HLO.out;omega) (Nat.le_refl _) ht.top
 have R:=hid (R.out.later hb)
 have B:=hid (btr B.out hb)
 have HTM:=hid htm
 clear ht hb htm HLO
 obtain ⟨kS,hkS⟩:∃ kS,w1.heap.size=kS:=⟨_,rfl⟩
 obtain ⟨V,hV⟩:∃ V,w1.alloc (.cells #[.int .i64 y,.int .i64 tm,.slice ba bn bc,.slice ga gn gc] 27)=V:=⟨_,rfl⟩
 have hb:Below w1.heap.size w1 V:=by rw [← hV];exact bpush (bre _) _
 have X:Hid (Sx V kS 27 y tm (.slice ba bn bc) (.slice ga gn gc)):=by rw [← hV,← hkS];exact Sx.new _ _ _ _ _ _
 have HK:Hid (w.heap.size<kS):=by rw [← hkS];exact R.out.lt
 have Z:=hid (Z.out.later hb)
 have R:=hid (R.out.later hb)
 have B:=hid (btr B.out hb)
 clear hb
 have q1:=R.out.cells
 have f1:=R.out.loose
 have q0:=X.out.cells
 go_wp2
 exact dr_end R.out (Z.out.wide (by omega) (Nat.le_refl _) Z.out.top) B.out (fun W' h hb=>⟨y,tm,ba,bn,bc,ga,gn,gc,S,G,box,rfl,HTM.out,h,hb⟩) (fun W' _ d=>by simp [results,Tryz.results19,go_sem,d])
set_option maxHeartbeats 3200000 in
set_option maxRecDepth 100000 in
theorem drawRenameBox_any (ao:Option Addr) (n cap:Nat) (w:World) (hn:n≤1048576) (hcode:Code w w.heap.size ao n) :
  Calls Tryz.prog 18 #[.slice ao n cap] w fun e w'=>Text7 w e w':=by
 have R:=hid (Sx.new w 27 0 0 (.slice none 0 0) (.slice none 0 0))
 have B:=hid (bpush (bre w) (.cells #[.int .i64 0,.int .i64 0,.slice none 0 0,.slice none 0 0] 27))
 have HO:=hid hcode
 clear hcode
 go_enter Tryz.func18,Tryz.ntmps18
 go_wp2_with fail
 refine (new_any ao n cap _ hn (HO.out.over B.out)).mono ?_;rintro e w1 ⟨rfl,hc,_,hb⟩
 have e1:(w.alloc (.cells #[.int .i64 0,.int .i64 0,.slice none 0 0,.slice none 0 0] 27)).heap.size=w.heap.size+1:=by simp
 rw [e1] at hc ⊢
 have C:=hid hc
 have R:=hid (R.out.later hb)
 have B:=hid (btr B.out hb)
 clear hc hb e1
 go_wp2_with fail
 have TB:Hid ((w1.alloc (.cells #[.string ⟨#[105,110,98,111,120]⟩,.string ⟨#[119,111,114,107]⟩,.string ⟨#[110,101,119]⟩,.string ⟨#[65]⟩] 9)).heap[w1.heap.size]?=some (.cells #[.string ⟨#[105,110,98,111,120]⟩,.string ⟨#[119,111,114,107]⟩,.string ⟨#[110,101,119]⟩,.string ⟨#[65]⟩] 9 (0,0))):=heap_alloc_new w1 _
 have TL:Hid (w1.heap.size≠(w.heap.size+1)):=by have h1:=C.out.lt;show _≠_;omega
 have C:=hid (C.out.alloc (.cells #[.string ⟨#[105,110,98,111,120]⟩,.string ⟨#[119,111,114,107]⟩,.string ⟨#[110,101,119]⟩,.string ⟨#[65]⟩] 9))
 have R:=hid (R.out.later (bpush (bre _) (.cells #[.string ⟨#[105,110,98,111,120]⟩,.string ⟨#[119,111,114,107]⟩,.string ⟨#[110,101,119]⟩,.string ⟨#[65]⟩] 9)))
 have B:=hid (bpush B.out (.cells #[.string ⟨#[105,110,98,111,120]⟩,.string ⟨#[119,111,114,107]⟩,.string ⟨#[110,101,119]⟩,.string ⟨#[65]⟩] 9))
 refine (pickn_any (w.heap.size+1) _ 4 [⟨#[105,110,98,111,120]⟩,⟨#[119,111,114,107]⟩,⟨#[110,101,119]⟩,⟨#[65]⟩] ao n cap _ hn C.out (HO.out.low B.out (Nat.le_succ _)) rfl (by decide) (by decide) TL.out (strs4 TB.out)).mono ?_;rintro e w2 ⟨nm,hnm,rfl,hc,hg⟩
 have C:=hid hc
 have HNM:=hid (nm_a4 hnm)
 clear hnm TB TL
 have R:=hid (R.out.off hg (by omega))
 have B:=hid (B.out.trans (only_below hg (by omega) B.out.size))
 clear hc hg
 go_wp2_with fail
 have HLO:Hid (w.heap.size<w2.heap.size):=R.out.lt
 refine (l07Some_any ao n cap _ hn (HO.out.over B.out)).mono ?_;rintro e w3 ⟨hi,y,tm,ba,bn,bc,ga,gn,gc,S,G,box,gid,rfl,htm,ht,hb⟩
 have Z:Hid (Tg w3 (w.heap.size+2) hi ba bn bc ga gn gc S G):=ht.wide (by have h1:=C.out.lt;omega) (Nat.le_refl _) ht.top
 have R:=hid (R.out.later hb)
 have B:=hid (btr B.out hb)
 have HTM:=hid htm
 have C:=hid (C.out.later hb C.out.lt)
 clear ht hb htm HLO
 obtain ⟨kS,hkS⟩:∃ kS,w3.heap.size=kS:=⟨_,rfl⟩
 obtain ⟨V,hV⟩:∃ V,w3.alloc (.cells #[.int .i64 y,.int .i64 tm,.slice ba bn bc,.slice ga gn gc] 27)=V:=⟨_,rfl⟩
 have hb:Below w3.heap.size w3 V:=by rw [← hV];exact bpush (bre _) _
 have X:Hid (Sx V kS 27 y tm (.slice ba bn bc) (.slice ga gn gc)):=by rw [← hV,← hkS];exact Sx.new _ _ _ _ _ _
 have HK:Hid ((w.heap.size+1)<kS):=by rw [← hkS];exact C.out.lt
 have Z:=hid (Z.out.later hb)
 have R:=hid (R.out.later hb)
 have B:=hid (btr B.out hb)
 have C:=hid (C.out.later hb C.out.lt)
 clear hb
 have q1:=R.out.cells
 have f1:=R.out.loose
 have q0:=X.out.cells
 go_wp2
 exact dr_end R.out (Z.out.wide (by omega) (Nat.le_refl _) Z.out.top) B.out (fun W' h hb=>⟨y,tm,ba,bn,bc,ga,gn,gc,S,G,box,nm,rfl,HNM.out,HTM.out,h,hb⟩) (fun W' _ d=>by simp [results,Tryz.results18,go_sem,d])
set_option maxHeartbeats 3200000 in
set_option maxRecDepth 100000 in
theorem drawMakeBox_any (ao:Option Addr) (n cap:Nat) (w:World) (hn:n≤1048576) (hcode:Code w w.heap.size ao n) :
  Calls Tryz.prog 17 #[.slice ao n cap] w fun e w'=>Text7 w e w':=by
 have R:=hid (Sx.new w 27 0 0 (.slice none 0 0) (.slice none 0 0))
 have B:=hid (bpush (bre w) (.cells #[.int .i64 0,.int .i64 0,.slice none 0 0,.slice none 0 0] 27))
 have HO:=hid hcode
 clear hcode
 go_enter Tryz.func17,Tryz.ntmps17
 go_wp2_with fail
 refine (new_any ao n cap _ hn (HO.out.over B.out)).mono ?_;rintro e w1 ⟨rfl,hc,_,hb⟩
 have e1:(w.alloc (.cells #[.int .i64 0,.int .i64 0,.slice none 0 0,.slice none 0 0] 27)).heap.size=w.heap.size+1:=by simp
 rw [e1] at hc ⊢
 have C:=hid hc
 have R:=hid (R.out.later hb)
 have B:=hid (btr B.out hb)
 clear hc hb e1
 go_wp2_with fail
 have TB:Hid ((w1.alloc (.cells #[.string ⟨#[105,110,98,111,120]⟩,.string ⟨#[119,111,114,107]⟩,.string ⟨#[110,101,119]⟩,.string ⟨#[65]⟩] 9)).heap[w1.heap.size]?=some (.cells #[.string ⟨#[105,110,98,111,120]⟩,.string ⟨#[119,111,114,107]⟩,.string ⟨#[110,101,119]⟩,.string ⟨#[65]⟩] 9 (0,0))):=heap_alloc_new w1 _
 have TL:Hid (w1.heap.size≠(w.heap.size+1)):=by have h1:=C.out.lt;show _≠_;omega
 have C:=hid (C.out.alloc (.cells #[.string ⟨#[105,110,98,111,120]⟩,.string ⟨#[119,111,114,107]⟩,.string ⟨#[110,101,119]⟩,.string ⟨#[65]⟩] 9))
 have R:=hid (R.out.later (bpush (bre _) (.cells #[.string ⟨#[105,110,98,111,120]⟩,.string ⟨#[119,111,114,107]⟩,.string ⟨#[110,101,119]⟩,.string ⟨#[65]⟩] 9)))
 have B:=hid (bpush B.out (.cells #[.string ⟨#[105,110,98,111,120]⟩,.string ⟨#[119,111,114,107]⟩,.string ⟨#[110,101,119]⟩,.string ⟨#[65]⟩] 9))
 refine (pickn_any (w.heap.size+1) _ 4 [⟨#[105,110,98,111,120]⟩,⟨#[119,111,114,107]⟩,⟨#[110,101,119]⟩,⟨#[65]⟩] ao n cap _ hn C.out (HO.out.low B.out (Nat.le_succ _)) rfl (by decide) (by decide) TL.out (strs4 TB.out)).mono ?_;rintro e w2 ⟨nm,hnm,rfl,hc,hg⟩
 have C:=hid hc
 have HNM:=hid (nm_a4 hnm)
 clear hnm TB TL
 have R:=hid (R.out.off hg (by omega))
 have B:=hid (B.out.trans (only_below hg (by omega) B.out.size))
 clear hc hg
 go_wp2_with fail
 have TB:Hid ((w2.alloc (.cells #[.int .i64 55,.int .i64 90,.int .i64 300,.int .i64 0,.int .i64 10000] 3)).heap[w2.heap.size]?=some (.cells #[.int .i64 55,.int .i64 90,.int .i64 300,.int .i64 0,.int .i64 10000] 3 (0,0))):=heap_alloc_new w2 _
 have TL:Hid (w2.heap.size≠(w.heap.size+1)):=by have h1:=C.out.lt;show _≠_;omega
 have C:=hid (C.out.alloc (.cells #[.int .i64 55,.int .i64 90,.int .i64 300,.int .i64 0,.int .i64 10000] 3))
 have R:=hid (R.out.later (bpush (bre _) (.cells #[.int .i64 55,.int .i64 90,.int .i64 300,.int .i64 0,.int .i64 10000] 3)))
 have B:=hid (bpush B.out (.cells #[.int .i64 55,.int .i64 90,.int .i64 300,.int .i64 0,.int .i64 10000] 3))
 refine (pickInt_any (w.heap.size+1) _ 5 [55,90,300,0,10000] ao n cap _ hn C.out (HO.out.low B.out (Nat.le_succ _)) rfl (by decide) (by decide) TL.out (ints5 TB.out)).mono ?_;rintro e w3 ⟨z,hz,rfl,hc,hg⟩
 have C:=hid hc
 clear hz TB TL
 have R:=hid (R.out.off hg (by omega))
 have B:=hid (B.out.trans (only_below hg (by omega) B.out.size))
 clear hc hg
 go_wp2_with fail
 have HLO:Hid (w.heap.size<w3.heap.size):=R.out.lt
 refine (l07Some_any ao n cap _ hn (HO.out.over B.out)).mono ?_;rintro e w4 ⟨hi,y,tm,ba,bn,bc,ga,gn,gc,S,G,box,gid,rfl,htm,ht,hb⟩
 have Z:Hid (Tg w4 (w.heap.size+2) hi ba bn bc ga gn gc S G):=ht.wide (by have h1:=C.out.lt;omega) (Nat.le_refl _) ht.top
 have R:=hid (R.out.later hb)
 have B:=hid (btr B.out hb)
 have HTM:=hid htm
 have C:=hid (C.out.later hb C.out.lt)
 clear ht hb htm HLO
 obtain ⟨kS,hkS⟩:∃ kS,w4.heap.size=kS:=⟨_,rfl⟩
 obtain ⟨V,hV⟩:∃ V,w4.alloc (.cells #[.int .i64 y,.int .i64 tm,.slice ba bn bc,.slice ga gn gc] 27)=V:=⟨_,rfl⟩
 have hb:Below w4.heap.size w4 V:=by rw [← hV];exact bpush (bre _) _
 have X:Hid (Sx V kS 27 y tm (.slice ba bn bc) (.slice ga gn gc)):=by rw [← hV,← hkS];exact Sx.new _ _ _ _ _ _
 have HK:Hid ((w.heap.size+1)<kS):=by rw [← hkS];exact C.out.lt
 have Z:=hid (Z.out.later hb)
 have R:=hid (R.out.later hb)
 have B:=hid (btr B.out hb)
 have C:=hid (C.out.later hb C.out.lt)
 clear hb
 go_wp2_with fail
 try rw [hkS]
 try rw [hV]
 clear hkS hV
 refine (once_any (w.heap.size+1) ao n cap _ hn C.out (HO.out.low B.out (Nat.le_succ _)) 6 (by decide) (by decide)).mono ?_;rintro e w5 ⟨q,rfl,hc,hg⟩
 have C:=hid hc
 have R:=hid (R.out.off hg (by omega))
 have X:=hid (X.out.off hg (by have:=HK.out;omega))
 have Z:=hid (Z.out.far hg (.inl (by omega)))
 have B:=hid (B.out.trans (only_below hg (by omega) B.out.size))
 clear hc hg
 cases q with
 | false =>
  have q1:=R.out.cells
  have f1:=R.out.loose
  have q0:=X.out.cells
  go_wp2
  exact dr_end R.out (Z.out.wide (by omega) (Nat.le_refl _) Z.out.top) B.out (fun W' h hb=>⟨y,tm,ba,bn,bc,ga,gn,gc,S,G,z,nm,rfl,HNM.out,HTM.out,h,hb⟩) (fun W' _ d=>by simp [results,Tryz.results17,go_sem,d])
 | true =>
  have q1:=R.out.cells
  have f1:=R.out.loose
  have q0:=X.out.cells
  go_wp2
  exact dr_end R.out (Z.out.wide (by omega) (Nat.le_refl _) Z.out.top) B.out (fun W' h hb=>⟨y,tm,ba,bn,bc,ga,gn,gc,S,G,box,nm,rfl,HNM.out,HTM.out,h,hb⟩) (fun W' _ d=>by simp [results,Tryz.results17,go_sem,d])
set_option maxHeartbeats 3200000 in
set_option maxRecDepth 100000 in
theorem drawMarkMail_any (ao:Option Addr) (n cap:Nat) (w:World) (hn:n≤1048576) (hcode:Code w w.heap.size ao n) :
  Calls Tryz.prog 21 #[.slice ao n cap] w fun e w'=>Four7 w e w':=by
 have R:=hid (Sx.new w 27 0 0 (.slice none 0 0) (.slice none 0 0))
 have B:=hid (bpush (bre w) (.cells #[.int .i64 0,.int .i64 0,.slice none 0 0,.slice none 0 0] 27))
 have HO:=hid hcode
 clear hcode
 go_enter Tryz.func21,Tryz.ntmps21
 go_wp2_with fail
 refine (new_any ao n cap _ hn (HO.out.over B.out)).mono ?_;rintro e w1 ⟨rfl,hc,_,hb⟩
 have e1:(w.alloc (.cells #[.int .i64 0,.int .i64 0,.slice none 0 0,.slice none 0 0] 27)).heap.size=w.heap.size+1:=by simp
 rw [e1] at hc ⊢
 have C:=hid hc
 have R:=hid (R.out.later hb)
 have B:=hid (btr B.out hb)
 clear hc hb e1
 go_wp2_with fail
 refine (below4 (w.heap.size+1) ao n cap _ hn C.out (HO.out.low B.out (Nat.le_succ _)) 10 (by decide) (by decide)).mono ?_;rintro e w2 ⟨fl,hfl,rfl,hc,hg⟩
 have C:=hid hc
 have R:=hid (R.out.off hg (by omega))
 have B:=hid (B.out.trans (only_below hg (by omega) B.out.size))
 clear hc hg
 go_wp2_with fail
 have HLO:Hid (w.heap.size<w2.heap.size):=R.out.lt
 refine (l07Some_any ao n cap _ hn (HO.out.over B.out)).mono ?_;rintro e w3 ⟨hi,y,tm,ba,bn,bc,ga,gn,gc,S,G,box,gid,rfl,htm,ht,hb⟩
 have Z:Hid (Tg w3 (w.heap.size+2) hi ba bn bc ga gn gc S G):=ht.wide (by have h1:=C.out.lt;omega) (Nat.le_refl _) ht.top
 have R:=hid (R.out.later hb)
 have B:=hid (btr B.out hb)
 have HTM:=hid htm
 have C:=hid (C.out.later hb C.out.lt)
 clear ht hb htm HLO
 obtain ⟨kS,hkS⟩:∃ kS,w3.heap.size=kS:=⟨_,rfl⟩
 obtain ⟨V,hV⟩:∃ V,w3.alloc (.cells #[.int .i64 y,.int .i64 tm,.slice ba bn bc,.slice ga gn gc] 27)=V:=⟨_,rfl⟩
 have hb:Below w3.heap.size w3 V:=by rw [← hV];exact bpush (bre _) _
 have X:Hid (Sx V kS 27 y tm (.slice ba bn bc) (.slice ga gn gc)):=by rw [← hV,← hkS];exact Sx.new _ _ _ _ _ _
 have HK:Hid ((w.heap.size+1)<kS):=by rw [← hkS];exact C.out.lt
 have Z:=hid (Z.out.later hb)
 have R:=hid (R.out.later hb)
 have B:=hid (btr B.out hb)
 have C:=hid (C.out.later hb C.out.lt)
 clear hb
 have q1:=R.out.cells
 have f1:=R.out.loose
 have q0:=X.out.cells
 go_wp2
 exact dr_end R.out (Z.out.wide (by omega) (Nat.le_refl _) Z.out.top) B.out (fun W' h hb=>⟨y,tm,ba,bn,bc,ga,gn,gc,S,G,box,gid,(fl:Int) - 1,rfl,HTM.out,h,hb⟩) (fun W' _ d=>by simp [results,Tryz.results21,go_sem,d])
set_option maxHeartbeats 3200000 in
set_option maxRecDepth 100000 in
theorem drawPutMail_any (ao:Option Addr) (n cap:Nat) (w:World) (hn:n≤1048576) (hcode:Code w w.heap.size ao n) :
  Calls Tryz.prog 20 #[.slice ao n cap] w fun e w'=>Five7 w e w':=by
 have R:=hid (Sx.new w 27 0 0 (.slice none 0 0) (.slice none 0 0))
 have B:=hid (bpush (bre w) (.cells #[.int .i64 0,.int .i64 0,.slice none 0 0,.slice none 0 0] 27))
 have HO:=hid hcode
 clear hcode
 go_enter Tryz.func20,Tryz.ntmps20
 go_wp2_with fail
 refine (new_any ao n cap _ hn (HO.out.over B.out)).mono ?_;rintro e w1 ⟨rfl,hc,_,hb⟩
 have e1:(w.alloc (.cells #[.int .i64 0,.int .i64 0,.slice none 0 0,.slice none 0 0] 27)).heap.size=w.heap.size+1:=by simp
 rw [e1] at hc ⊢
 have C:=hid hc
 have R:=hid (R.out.later hb)
 have B:=hid (btr B.out hb)
 clear hc hb e1
 go_wp2_with fail
 refine (below4 (w.heap.size+1) ao n cap _ hn C.out (HO.out.low B.out (Nat.le_succ _)) 10 (by decide) (by decide)).mono ?_;rintro e w2 ⟨fl,hfl,rfl,hc,hg⟩
 have C:=hid hc
 have R:=hid (R.out.off hg (by omega))
 have B:=hid (B.out.trans (only_below hg (by omega) B.out.size))
 clear hc hg
 go_wp2_with fail
 have TB:Hid ((w2.alloc (.cells #[.int .i64 300,.int .i64 400,.int .i64 101,.int .i64 0,.int .i64 10000] 3)).heap[w2.heap.size]?=some (.cells #[.int .i64 300,.int .i64 400,.int .i64 101,.int .i64 0,.int .i64 10000] 3 (0,0))):=heap_alloc_new w2 _
 have TL:Hid (w2.heap.size≠(w.heap.size+1)):=by have h1:=C.out.lt;show _≠_;omega
 have C:=hid (C.out.alloc (.cells #[.int .i64 300,.int .i64 400,.int .i64 101,.int .i64 0,.int .i64 10000] 3))
 have R:=hid (R.out.later (bpush (bre _) (.cells #[.int .i64 300,.int .i64 400,.int .i64 101,.int .i64 0,.int .i64 10000] 3)))
 have B:=hid (bpush B.out (.cells #[.int .i64 300,.int .i64 400,.int .i64 101,.int .i64 0,.int .i64 10000] 3))
 refine (pickInt_any (w.heap.size+1) _ 5 [300,400,101,0,10000] ao n cap _ hn C.out (HO.out.low B.out (Nat.le_succ _)) rfl (by decide) (by decide) TL.out (ints5 TB.out)).mono ?_;rintro e w3 ⟨z,hz,rfl,hc,hg⟩
 have C:=hid hc
 clear hz TB TL
 have R:=hid (R.out.off hg (by omega))
 have B:=hid (B.out.trans (only_below hg (by omega) B.out.size))
 clear hc hg
 go_wp2_with fail
 refine (l05Text_any (w.heap.size+1) ao n cap _ hn C.out (HO.out.low B.out (Nat.le_succ _))).mono ?_;rintro e w4 ⟨tx,htx,rfl,hc,hg⟩
 have C:=hid hc
 have HTX:Hid (tx.size≤1048576):=by show _≤_;omega
 clear htx
 have R:=hid (R.out.off hg (by omega))
 have B:=hid (B.out.trans (only_below hg (by omega) B.out.size))
 clear hc hg
 go_wp2_with fail
 have HLO:Hid (w.heap.size<w4.heap.size):=R.out.lt
 refine (l07Some_any ao n cap _ hn (HO.out.over B.out)).mono ?_;rintro e w5 ⟨hi,y,tm,ba,bn,bc,ga,gn,gc,S,G,box,gid,rfl,htm,ht,hb⟩
 have Z:Hid (Tg w5 (w.heap.size+2) hi ba bn bc ga gn gc S G):=ht.wide (by have h1:=C.out.lt;omega) (Nat.le_refl _) ht.top
 have R:=hid (R.out.later hb)
 have B:=hid (btr B.out hb)
 have HTM:=hid htm
 have C:=hid (C.out.later hb C.out.lt)
 clear ht hb htm HLO
 obtain ⟨kS,hkS⟩:∃ kS,w5.heap.size=kS:=⟨_,rfl⟩
 obtain ⟨V,hV⟩:∃ V,w5.alloc (.cells #[.int .i64 y,.int .i64 tm,.slice ba bn bc,.slice ga gn gc] 27)=V:=⟨_,rfl⟩
 have hb:Below w5.heap.size w5 V:=by rw [← hV];exact bpush (bre _) _
 have X:Hid (Sx V kS 27 y tm (.slice ba bn bc) (.slice ga gn gc)):=by rw [← hV,← hkS];exact Sx.new _ _ _ _ _ _
 have HK:Hid ((w.heap.size+1)<kS):=by rw [← hkS];exact C.out.lt
 have Z:=hid (Z.out.later hb)
 have R:=hid (R.out.later hb)
 have B:=hid (btr B.out hb)
 have C:=hid (C.out.later hb C.out.lt)
 clear hb
 have q1:=R.out.cells
 have f1:=R.out.loose
 have q0:=X.out.cells
 go_wp2
 exact dr_end R.out (Z.out.wide (by omega) (Nat.le_refl _) Z.out.top) B.out (fun W' h hb=>⟨y,tm,ba,bn,bc,ga,gn,gc,S,G,box,z,(fl:Int) - 1,tx,rfl,HTX.out,HTM.out,h,hb⟩) (fun W' _ d=>by simp [results,Tryz.results20,go_sem,d])
end Go.Proofs.YtkbecgcbheopnaaGreat
