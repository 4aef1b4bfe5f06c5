/- Mf. -/
import Derived.Test.YtdkedgedkgabnaaGreatDoorX4
namespace Go.Proofs.YtdkedgedkgabnaaGreatDoor
open Go.RowKit Go.ChangeMaps
set_option maxHeartbeats 16000000
set_option maxRecDepth 100000
theorem pick_any (cb g k z:Nat) (zs:List ByteArray) (ao:Option Addr) (n cap:Nat) (w:World) (hn:n≤1048576) (hcur:Cur w cb ao n cap) (hcode:Code w cb ao n) (hk:zs.length=k) (hk0:0<k) (hk2:k≤1000) (hg:g≠cb) (hz:∀ y∈zs,y.size≤z)
  (hcell:∀ i (h:i<zs.length),w.cell? ⟨g,i,none⟩=some (.string zs[i])) :
  Calls Tryz.prog 130 #[.pointer (some ⟨cb,0,none⟩),.slice (some ⟨g,0,none⟩) k k] w fun e w'=>∃ x:ByteArray,x.size≤z∧e=.returned (.string x)∧Cur w' cb ao n cap∧w.grownBy w' (some cb):=by
 have HC:=hide hcur;have HO:=hide hcode;have HK:=hide hk;have HZ:=hide hz;have HCELL:=hide hcell;clear hcur hcode hk hcell hz
 go_enter Tryz.func130,Tryz.ntmps130
 go_wp2_with fail
 refine (below4 cb ao n cap _ hn (unhide HC) (unhide HO) k (by omega) (by omega)).mono ?_;rintro e w1 ⟨x,hx,rfl,hc1,hb1⟩
 have hxl:x<zs.length:=by rw [unhide HK];omega
 obtain ⟨y,hy⟩:∃ y,zs[x]=y:=⟨_,rfl⟩;have hc:w1.cell? ⟨g,x,none⟩=some (.string y):=hb1.cell (by rw [← hy];exact unhide HCELL x hxl) (by simp;omega)
 have HY:Hid (y.size≤z):=by show _≤_;rw [← hy];exact unhide HZ _ (List.getElem_mem _)
 have HC1:=hide hc1
 have hI:(0:Int)≤(x:Int)∧(x:Int)<(k:Int):=by omega
 clear hc1 hy
 go_wp2
 go_ret
 exact ⟨y,HY.out,rfl,unhide HC1,hb1⟩
theorem six_texts (w:World) (e:Nat) (a b c d f g:ByteArray):∀ i (h:i<[a,b,c,d,f,g].length),(w.alloc (.cells #[.string a,.string b,.string c,.string d,.string f,.string g] e)).cell? ⟨w.heap.size,i,none⟩=some (.string [a,b,c,d,f,g][i]):=by
 intro i hi;have h:=heap_alloc_new w (.cells #[.string a,.string b,.string c,.string d,.string f,.string g] e)
 have h2:i=0∨i=1∨i=2∨i=3∨i=4∨i=5:=by simp at hi;omega
 rcases h2 with rfl | rfl | rfl | rfl | rfl | rfl
 ·exact cell_of_row _ _ 0 _ _ _ h
 ·exact cell_of_row _ _ 1 _ _ _ h
 ·exact cell_of_row _ _ 2 _ _ _ h
 ·exact cell_of_row _ _ 3 _ _ _ h
 ·exact cell_of_row _ _ 4 _ _ _ h
 exact cell_of_row _ _ 5 _ _ _ h
theorem l05Text_any (cb:Nat) (ao:Option Addr) (n cap:Nat) (w:World) (hn:n≤1048576) (hcur:Cur w cb ao n cap) (hcode:Code w cb ao n) :
  Calls Tryz.prog 132 #[.pointer (some ⟨cb,0,none⟩)] w fun e w'=>∃ x:ByteArray,x.size≤20∧e=.returned (.string x)∧Cur w' cb ao n cap∧w.grownBy w' (some cb):=by
 have hlt:=hcur.lt;have HC:=hid hcur;have HO:=hid hcode;clear hcur hcode
 go_enter Tryz.func132,Tryz.ntmps132
 go_wp2_with fail
 refine (pick_any cb w.heap.size 6 20 [⟨#[104,101,108,108,111]⟩,⟨#[104,105,10]⟩,⟨#[]⟩,⟨#[116,101,120,116,32,111,102,32,105,116]⟩,⟨#[0,255]⟩,⟨#[97,32,98]⟩] ao n cap _ hn (HC.out.alloc _) (HO.out.later (World.grownBy_alloc _ _ _)) rfl (by decide) (by decide) (by omega) (by decide) (six_texts w _ _ _ _ _ _ _)).mono ?_;rintro e w1 ⟨x,hx,rfl,hc1,hb1⟩;have HX:=hid hx;have C1:=hid hc1;have G1:=hid (grown_push hb1);clear hx hc1 hb1
 go_wp2
 go_ret
 exact ⟨x,HX.out,rfl,C1.out,G1.out⟩
theorem l05Mail_any (cb:Nat) (ao:Option Addr) (n cap:Nat) (w:World) (hn:n≤1048576) (hcur:Cur w cb ao n cap) (hcode:Code w cb ao n) :
  Calls Tryz.prog 135 #[.pointer (some ⟨cb,0,none⟩)] w fun e w'=>∃ (g u:Int) (v:Value) (l:List R3) (t:ByteArray),e=.returned (.agg #[.int .i64 g,.int .i64 u,v,.string t])∧l.length=3∧t.size≤20∧Ow w' w.heap.size v l∧Cur w' cb ao n cap∧w.grownBy w' (some cb):=by
 have hlt:=hcur.lt;have N0:=hid (bpush (bre w) (.cells #[.int .i64 0,.int .i64 0,.slice none 0 0,.string ⟨#[]⟩] 78));have M0:=hid (Mg.new w 78 0 0 (.slice none 0 0) ⟨#[]⟩);have C0:=hid (hcur.alloc (.cells #[.int .i64 0,.int .i64 0,.slice none 0 0,.string ⟨#[]⟩] 78));have O0:=hid (hcode.later (World.grownBy_alloc w (.cells #[.int .i64 0,.int .i64 0,.slice none 0 0,.string ⟨#[]⟩] 78) (some cb)));clear hcur hcode
 go_enter Tryz.func135,Tryz.ntmps135
 go_wp2_with fail
 refine (below4 cb ao n cap _ hn C0.out O0.out 6 (by decide) (by decide)).mono ?_;rintro e w1 ⟨x,hx,rfl,hc,hg⟩;have C1:=hid hc;have G1:=hid (grown_push hg);have M1:=hid (M0.out.grown hg (by simp;omega));have O1:=hid (O0.out.later hg);clear hc hg M0 C0 O0
 go_wp2_with fail
 refine (below4 cb ao n cap _ hn C1.out O1.out 6 (by decide) (by decide)).mono ?_;rintro e w2 ⟨y,hy,rfl,hc,hg⟩;have C2:=hid hc;have G2:=hid (only_trans G1.out hg);have M2:=hid (M1.out.grown hg (by simp;omega));have O2:=hid (O1.out.later hg);clear hc hg M1 C1 O1 G1
 go_wp2_with fail
 refine (l04Flags_any cb ao n cap _ hn C2.out O2.out).mono ?_;rintro e w3 ⟨v,l,hl,_,rfl,hown,hc,hg⟩;obtain ⟨av,cv,hv,_⟩:=Ow.shape hown;rw [hl] at hv;subst hv;have HL:=hid hl;have L2:Hid (w.heap.size<w2.heap.size):=M2.out.lt;have C3:=hid hc;have G3:=hid (only_trans G2.out hg);have M3:=hid (M2.out.grown hg (by simp;omega));have O3:=hid (O2.out.later hg);have OW:=hid hown;clear hl hown hc hg M2 C2 O2 G2
 go_wp2_with fail
 refine (l05Text_any cb ao n cap _ hn C3.out O3.out).mono ?_;rintro e w4 ⟨t,ht,rfl,hc,hg⟩;have HT:=hid ht;have l2:=L2.out;have C4:=hid hc;have G4:=hid (only_trans G3.out hg);have M4:=hid (M3.out.grown hg (by simp;omega));have OW4:=hid (Ow.keep OW.out hg (by omega));have d:=M4.out.cells;have f:=M4.out.loose;clear ht hc hg M3 C3 O3 G3 OW l2
 go_wp2
 have l2:=L2.out;have d3:=(set4 M4.out (1+(x:Int)) (1+(y:Int)) (.slice av 3 cv) t).cells;refine bodyPost_ret (v:=.agg #[.int .i64 (1+(x:Int)),.int .i64 (1+(y:Int)),.slice av 3 cv,.string t]) (by simp [results,Tryz.results135,go_sem,d3]) rfl ⟨_,_,_,l,t,rfl,HL.out,HT.out,?_,?_,?_⟩
 ·exact own_base (own4 OW4.out l2 _ _ _ _) (by omega)
 ·exact (((C4.out.set (by omega)).set (by omega)).set (by omega)).set (by omega)
 exact wst_new (wst_new (wst_new (wst_new G4.out (Nat.le_refl _) 0 _) (Nat.le_refl _) 1 _) (Nat.le_refl _) 2 _) (Nat.le_refl _) 3 _
theorem Dl.lower {W:World} {B B':Nat} {v:Value} {l:List R3} (h:Dl W B v l) (hB:B'≤B):Dl W B' v l:=by
 obtain ⟨a,c,h1,h2,h3,h4,h5,h6⟩:=h;exact ⟨a,c,h1,h2,h3,h4,h5,fun x e=>Nat.le_trans hB (h6 x e)⟩
theorem Dl.far {W:World} {B k o n c:Nat} {u:Value} {a:Option Addr} {l:List R3} (h:Dl W B (.slice a n c) l) (hk:∀ y,a=some y→y.block≠k):Dl (W.setCell ⟨k,o,none⟩ u) B (.slice a n c) l:=by
 obtain ⟨a',c',h1,h2,h3,h4,h5,h6⟩:=h;simp only [Value.slice.injEq] at h1;obtain ⟨rfl,rfl,rfl⟩:=h1;exact ⟨a,c,rfl,h2,h3,h4,h5.grown (only_set (cb:=k)) hk,h6⟩
def Any1 (cb:Nat) (ao:Option Addr) (n cap:Nat) (w:World) (e:Ending) (w':World):Prop :=
 ∃ (g u:Int) (f:Value) (l:List R3) (t:ByteArray),e=.returned (.agg #[.int .i64 g,.int .i64 u,f,.string t])∧Dl w' (w.heap.size+1) f l∧t.size≤100∧Cur w' cb ao n cap∧w.grownBy w' (some cb)
theorem tmod4 (x:Nat):(x:Int).tmod 4=0∨(x:Int).tmod 4=1∨(x:Int).tmod 4=2∨(x:Int).tmod 4=3:=by rw [Int.tmod_eq_emod_of_nonneg (by omega)];omega
theorem tmod3 (x:Nat):(x:Int).tmod 3=0∨(x:Int).tmod 3=1∨(x:Int).tmod 3=2:=by rw [Int.tmod_eq_emod_of_nonneg (by omega)];omega
theorem tmodTwo (x:Nat):∃ r:Nat,(x:Int).tmod 2=(r:Int)∧r<2:=⟨x % 2,by rw [Int.tmod_eq_emod_of_nonneg (by omega)];omega,by omega⟩
theorem any_end {cb:Nat} {ao:Option Addr} {n cap:Nat} {w W:World} {a:Act} (g u:Int) (f:Value) (l:List R3) (t:ByteArray)
  (hres:(results Tryz.f95 a.tmps).run Tryz.prog ((((W.setCell ⟨w.heap.size,0,none⟩ (.int .i64 g)).setCell ⟨w.heap.size,1,none⟩ (.int .i64 u)).setCell ⟨w.heap.size,2,none⟩ f).setCell ⟨w.heap.size,3,none⟩ (.string t))=.ok (.agg #[.int .i64 g,.int .i64 u,f,.string t]) ((((W.setCell ⟨w.heap.size,0,none⟩ (.int .i64 g)).setCell ⟨w.heap.size,1,none⟩ (.int .i64 u)).setCell ⟨w.heap.size,2,none⟩ f).setCell ⟨w.heap.size,3,none⟩ (.string t)))
  (hd:Dl W (w.heap.size+1) f l) (ht:t.size≤100) (hc:Cur W cb ao n cap) (hg:w.grownBy W (some cb)) (hne:w.heap.size≠cb) (hdef:a.defers=[]:=by rfl) :
  bodyPost Tryz.prog Tryz.f95 (fun e w'=>Any1 cb ao n cap w e w') Exit.ret a ((((W.setCell ⟨w.heap.size,0,none⟩ (.int .i64 g)).setCell ⟨w.heap.size,1,none⟩ (.int .i64 u)).setCell ⟨w.heap.size,2,none⟩ f).setCell ⟨w.heap.size,3,none⟩ (.string t)) :=
 bodyPost_ret hres hdef ⟨g,u,f,l,t,rfl,(((hd.set (Nat.lt_succ_self _)).set (Nat.lt_succ_self _)).set (Nat.lt_succ_self _)).set (Nat.lt_succ_self _),ht,(((hc.set hne).set hne).set hne).set hne,wst_new (wst_new (wst_new (wst_new hg (Nat.le_refl _) 0 _) (Nat.le_refl _) 1 _) (Nat.le_refl _) 2 _) (Nat.le_refl _) 3 _⟩
theorem l05Any_any (cb:Nat) (ao:Option Addr) (n cap:Nat) (w:World) (hn:n≤1048576) (hcur:Cur w cb ao n cap) (hcode:Code w cb ao n) :
  Calls Tryz.prog 95 #[.pointer (some ⟨cb,0,none⟩)] w fun e w'=>Any1 cb ao n cap w e w':=by
 have hlt:=hcur.lt;have M0:=hid (Mg.new w 78 0 0 (.slice none 0 0) ⟨#[]⟩);have C0:=hid (hcur.alloc (.cells #[.int .i64 0,.int .i64 0,.slice none 0 0,.string ⟨#[]⟩] 78));have O0:=hid (hcode.later (World.grownBy_alloc w (.cells #[.int .i64 0,.int .i64 0,.slice none 0 0,.string ⟨#[]⟩] 78) (some cb)));clear hcur hcode
 go_enter Tryz.func95,Tryz.ntmps95
 go_wp2_with fail
 refine (below4 cb ao n cap _ hn C0.out O0.out 10 (by decide) (by decide)).mono ?_;rintro e w1 ⟨k,hk,rfl,hc,hg⟩;have C1:=hid hc;have G1:=hid (grown_push hg);have M1:=hid (M0.out.grown hg (by simp;omega));have O1:=hid (O0.out.later hg);clear hc hg M0 C0 O0
 go_wp2_with fail
 refine (below4 cb ao n cap _ hn C1.out O1.out 60 (by decide) (by decide)).mono ?_;rintro e w2 ⟨x,hx,rfl,hc,hg⟩;have C2:=hid hc;have G2:=hid (only_trans G1.out hg);have M2:=hid (M1.out.grown hg (by simp;omega));have O2:=hid (O1.out.later hg);clear hc hg M1 C1 O1 G1
 go_wp2_with fail
 refine (l05Mail_any cb ao n cap _ hn C2.out O2.out).mono ?_;rintro e w3 ⟨g,u,v,l,t,rfl,hl,ht,hown,hc,hg⟩;obtain ⟨av,cv,hv,_⟩:=Ow.shape hown;rw [hl] at hv;subst hv;have HT:=hid ht;have l2:=M2.out.lt;have D3:=hid (Dl.of (B':=w.heap.size+1) hown (by omega) (by omega) (by omega))
 have FB:Hid (∀ y,av=some y→y.block<w3.heap.size):=by
  intro y hy;subst hy;exact (hown.lt y.block rfl).2
 have C3:=hid hc;have G3:=hid (only_trans G2.out hg);have M3:=hid (M2.out.grown hg (by simp;omega));have O3:=hid (O2.out.later hg);have L3:w.heap.size<w3.heap.size:=(M2.out.grown hg (by simp;omega)).lt;have HL3:=hid L3;have HL:=hid hl;clear ht hown hc hg M2 C2 O2 G2 l2 hl L3
 by_cases h0:k=0
 ·subst h0
  have cM:∀ o1 o2,(((w3.alloc o1).alloc o2).cell? ⟨w.heap.size,0,none⟩=some (.int .i64 0)∧((w3.alloc o1).alloc o2).cell? ⟨w.heap.size,1,none⟩=some (.int .i64 0)∧((w3.alloc o1).alloc o2).cell? ⟨w.heap.size,2,none⟩=some (.slice none 0 0)∧((w3.alloc o1).alloc o2).cell? ⟨w.heap.size,3,none⟩=some (.string ⟨#[]⟩)):=fun o1 o2=>((M3.out.later (bpush (bre w3) o1)).later (bpush (bre _) o2)).cells;have fM:∀ o1 o2,(((w3.alloc o1).alloc o2).frozen? ⟨w.heap.size,0,none⟩=false∧((w3.alloc o1).alloc o2).frozen? ⟨w.heap.size,1,none⟩=false∧((w3.alloc o1).alloc o2).frozen? ⟨w.heap.size,2,none⟩=false∧((w3.alloc o1).alloc o2).frozen? ⟨w.heap.size,3,none⟩=false):=fun o1 o2=>((M3.out.later (bpush (bre w3) o1)).later (bpush (bre _) o2)).loose;have h4:(x:Int).tmod 4=0∨(x:Int).tmod 4=1∨(x:Int).tmod 4=2∨(x:Int).tmod 4=3:=tmod4 x
  rcases h4 with h4 | h4 | h4 | h4
  ·go_wp2
   have l3:=HL3.out;obtain ⟨o1,ho1⟩:∃ o1:Obj,o1=.cells #[.int .i64 0,.int .i64 u,.slice av 3 cv,.string t] 78:=⟨_,rfl⟩;have d3:=(set4 ((M3.out.later (bpush (bre w3) o1)).later (bpush (bre _) (.cells #[.int .i64 0,.int .i64 9999,.int .i64 10000,.int .i64 (-1)] 3))) 0 u (.slice av 3 cv) t).cells;have DD:=((D3.out.later (bpush (bre w3) o1)).later (bpush (bre _) (.cells #[.int .i64 0,.int .i64 9999,.int .i64 10000,.int .i64 (-1)] 3)));have CC:=((C3.out.alloc o1).alloc (.cells #[.int .i64 0,.int .i64 9999,.int .i64 10000,.int .i64 (-1)] 3));have GG:=only_trans (only_trans G3.out (World.grownBy_alloc w3 o1 (some cb))) (World.grownBy_alloc _ (.cells #[.int .i64 0,.int .i64 9999,.int .i64 10000,.int .i64 (-1)] 3) (some cb));subst ho1;exact any_end 0 u (.slice av 3 cv) l t (by simp [results,Tryz.results95,go_sem,d3]) DD (Nat.le_trans HT.out (by decide)) CC GG (by omega)
  ·go_wp2
   have l3:=HL3.out;obtain ⟨o1,ho1⟩:∃ o1:Obj,o1=.cells #[.int .i64 9999,.int .i64 u,.slice av 3 cv,.string t] 78:=⟨_,rfl⟩;have d3:=(set4 ((M3.out.later (bpush (bre w3) o1)).later (bpush (bre _) (.cells #[.int .i64 0,.int .i64 9999,.int .i64 10000,.int .i64 (-1)] 3))) 9999 u (.slice av 3 cv) t).cells;have DD:=((D3.out.later (bpush (bre w3) o1)).later (bpush (bre _) (.cells #[.int .i64 0,.int .i64 9999,.int .i64 10000,.int .i64 (-1)] 3)));have CC:=((C3.out.alloc o1).alloc (.cells #[.int .i64 0,.int .i64 9999,.int .i64 10000,.int .i64 (-1)] 3));have GG:=only_trans (only_trans G3.out (World.grownBy_alloc w3 o1 (some cb))) (World.grownBy_alloc _ (.cells #[.int .i64 0,.int .i64 9999,.int .i64 10000,.int .i64 (-1)] 3) (some cb));subst ho1;exact any_end 9999 u (.slice av 3 cv) l t (by simp [results,Tryz.results95,go_sem,d3]) DD (Nat.le_trans HT.out (by decide)) CC GG (by omega)
  ·go_wp2
   have l3:=HL3.out;obtain ⟨o1,ho1⟩:∃ o1:Obj,o1=.cells #[.int .i64 10000,.int .i64 u,.slice av 3 cv,.string t] 78:=⟨_,rfl⟩;have d3:=(set4 ((M3.out.later (bpush (bre w3) o1)).later (bpush (bre _) (.cells #[.int .i64 0,.int .i64 9999,.int .i64 10000,.int .i64 (-1)] 3))) 10000 u (.slice av 3 cv) t).cells;have DD:=((D3.out.later (bpush (bre w3) o1)).later (bpush (bre _) (.cells #[.int .i64 0,.int .i64 9999,.int .i64 10000,.int .i64 (-1)] 3)));have CC:=((C3.out.alloc o1).alloc (.cells #[.int .i64 0,.int .i64 9999,.int .i64 10000,.int .i64 (-1)] 3));have GG:=only_trans (only_trans G3.out (World.grownBy_alloc w3 o1 (some cb))) (World.grownBy_alloc _ (.cells #[.int .i64 0,.int .i64 9999,.int .i64 10000,.int .i64 (-1)] 3) (some cb));subst ho1;exact any_end 10000 u (.slice av 3 cv) l t (by simp [results,Tryz.results95,go_sem,d3]) DD (Nat.le_trans HT.out (by decide)) CC GG (by omega)
  go_wp2
  have l3:=HL3.out;obtain ⟨o1,ho1⟩:∃ o1:Obj,o1=.cells #[.int .i64 (-1),.int .i64 u,.slice av 3 cv,.string t] 78:=⟨_,rfl⟩;have d3:=(set4 ((M3.out.later (bpush (bre w3) o1)).later (bpush (bre _) (.cells #[.int .i64 0,.int .i64 9999,.int .i64 10000,.int .i64 (-1)] 3))) (-1) u (.slice av 3 cv) t).cells;have DD:=((D3.out.later (bpush (bre w3) o1)).later (bpush (bre _) (.cells #[.int .i64 0,.int .i64 9999,.int .i64 10000,.int .i64 (-1)] 3)));have CC:=((C3.out.alloc o1).alloc (.cells #[.int .i64 0,.int .i64 9999,.int .i64 10000,.int .i64 (-1)] 3));have GG:=only_trans (only_trans G3.out (World.grownBy_alloc w3 o1 (some cb))) (World.grownBy_alloc _ (.cells #[.int .i64 0,.int .i64 9999,.int .i64 10000,.int .i64 (-1)] 3) (some cb));subst ho1;exact any_end (-1) u (.slice av 3 cv) l t (by simp [results,Tryz.results95,go_sem,d3]) DD (Nat.le_trans HT.out (by decide)) CC GG (by omega)
 by_cases h1:k=1
 ·subst h1
  have cM:∀ o1 o2,(((w3.alloc o1).alloc o2).cell? ⟨w.heap.size,0,none⟩=some (.int .i64 0)∧((w3.alloc o1).alloc o2).cell? ⟨w.heap.size,1,none⟩=some (.int .i64 0)∧((w3.alloc o1).alloc o2).cell? ⟨w.heap.size,2,none⟩=some (.slice none 0 0)∧((w3.alloc o1).alloc o2).cell? ⟨w.heap.size,3,none⟩=some (.string ⟨#[]⟩)):=fun o1 o2=>((M3.out.later (bpush (bre w3) o1)).later (bpush (bre _) o2)).cells;have fM:∀ o1 o2,(((w3.alloc o1).alloc o2).frozen? ⟨w.heap.size,0,none⟩=false∧((w3.alloc o1).alloc o2).frozen? ⟨w.heap.size,1,none⟩=false∧((w3.alloc o1).alloc o2).frozen? ⟨w.heap.size,2,none⟩=false∧((w3.alloc o1).alloc o2).frozen? ⟨w.heap.size,3,none⟩=false):=fun o1 o2=>((M3.out.later (bpush (bre w3) o1)).later (bpush (bre _) o2)).loose;have h4:(x:Int).tmod 3=0∨(x:Int).tmod 3=1∨(x:Int).tmod 3=2:=tmod3 x
  rcases h4 with h4 | h4 | h4
  ·go_wp2
   have l3:=HL3.out;obtain ⟨o1,ho1⟩:∃ o1:Obj,o1=.cells #[.int .i64 g,.int .i64 0,.slice av 3 cv,.string t] 78:=⟨_,rfl⟩;have d3:=(set4 ((M3.out.later (bpush (bre w3) o1)).later (bpush (bre _) (.cells #[.int .i64 0,.int .i64 9999,.int .i64 10000] 3))) g 0 (.slice av 3 cv) t).cells;have DD:=((D3.out.later (bpush (bre w3) o1)).later (bpush (bre _) (.cells #[.int .i64 0,.int .i64 9999,.int .i64 10000] 3)));have CC:=((C3.out.alloc o1).alloc (.cells #[.int .i64 0,.int .i64 9999,.int .i64 10000] 3));have GG:=only_trans (only_trans G3.out (World.grownBy_alloc w3 o1 (some cb))) (World.grownBy_alloc _ (.cells #[.int .i64 0,.int .i64 9999,.int .i64 10000] 3) (some cb));subst ho1;exact any_end g 0 (.slice av 3 cv) l t (by simp [results,Tryz.results95,go_sem,d3]) DD (Nat.le_trans HT.out (by decide)) CC GG (by omega)
  ·go_wp2
   have l3:=HL3.out;obtain ⟨o1,ho1⟩:∃ o1:Obj,o1=.cells #[.int .i64 g,.int .i64 9999,.slice av 3 cv,.string t] 78:=⟨_,rfl⟩;have d3:=(set4 ((M3.out.later (bpush (bre w3) o1)).later (bpush (bre _) (.cells #[.int .i64 0,.int .i64 9999,.int .i64 10000] 3))) g 9999 (.slice av 3 cv) t).cells;have DD:=((D3.out.later (bpush (bre w3) o1)).later (bpush (bre _) (.cells #[.int .i64 0,.int .i64 9999,.int .i64 10000] 3)));have CC:=((C3.out.alloc o1).alloc (.cells #[.int .i64 0,.int .i64 9999,.int .i64 10000] 3));have GG:=only_trans (only_trans G3.out (World.grownBy_alloc w3 o1 (some cb))) (World.grownBy_alloc _ (.cells #[.int .i64 0,.int .i64 9999,.int .i64 10000] 3) (some cb));subst ho1;exact any_end g 9999 (.slice av 3 cv) l t (by simp [results,Tryz.results95,go_sem,d3]) DD (Nat.le_trans HT.out (by decide)) CC GG (by omega)
  go_wp2
  have l3:=HL3.out;obtain ⟨o1,ho1⟩:∃ o1:Obj,o1=.cells #[.int .i64 g,.int .i64 10000,.slice av 3 cv,.string t] 78:=⟨_,rfl⟩;have d3:=(set4 ((M3.out.later (bpush (bre w3) o1)).later (bpush (bre _) (.cells #[.int .i64 0,.int .i64 9999,.int .i64 10000] 3))) g 10000 (.slice av 3 cv) t).cells;have DD:=((D3.out.later (bpush (bre w3) o1)).later (bpush (bre _) (.cells #[.int .i64 0,.int .i64 9999,.int .i64 10000] 3)));have CC:=((C3.out.alloc o1).alloc (.cells #[.int .i64 0,.int .i64 9999,.int .i64 10000] 3));have GG:=only_trans (only_trans G3.out (World.grownBy_alloc w3 o1 (some cb))) (World.grownBy_alloc _ (.cells #[.int .i64 0,.int .i64 9999,.int .i64 10000] 3) (some cb));subst ho1;exact any_end g 10000 (.slice av 3 cv) l t (by simp [results,Tryz.results95,go_sem,d3]) DD (Nat.le_trans HT.out (by decide)) CC GG (by omega)
 have N3:=hid (bpush (bre w3) (.cells #[.int .i64 g,.int .i64 u,.slice av 3 cv,.string t] 78));have X4:=hid (Mg.new w3 78 g u (.slice av 3 cv) t);have M4:=hid (M3.out.later N3.out);have C4:=hid (C3.out.alloc (.cells #[.int .i64 g,.int .i64 u,.slice av 3 cv,.string t] 78));have G4:=hid (only_trans G3.out (World.grownBy_alloc w3 (.cells #[.int .i64 g,.int .i64 u,.slice av 3 cv,.string t] 78) (some cb)));have D4:=hid (D3.out.later N3.out);have O4:=hid (O3.out.later (World.grownBy_alloc w3 (.cells #[.int .i64 g,.int .i64 u,.slice av 3 cv,.string t] 78) (some cb)));have c4:=X4.out.cells;have f4:=X4.out.loose;have d4:=M4.out.cells;have e4:=M4.out.loose;have LW4:Hid (w3.heap.size<(w3.alloc (.cells #[.int .i64 g,.int .i64 u,.slice av 3 cv,.string t] 78)).heap.size):=X4.out.lt;clear M3 C3 G3 D3 O3 N3
 by_cases h2:k=2
 ·subst h2
  go_wp2_with fail
  refine (l04Any_any cb ao n cap _ hn C4.out O4.out).mono ?_;rintro e w5 ⟨v5,l5,rfl,hd,hc,hg⟩;obtain ⟨a5,c5,rfl,q1,q2,q3,q4,q5⟩:=hd;have D5:Hid (Dl w5 (w3.alloc (.cells #[.int .i64 g,.int .i64 u,.slice av 3 cv,.string t] 78)).heap.size (.slice a5 l5.length c5) l5):=⟨a5,c5,rfl,q1,q2,q3,q4,q5⟩;have l3:=HL3.out;have l4:=LW4.out;have X5:=hid (X4.out.grown hg (by simp;omega));have M5:=hid ((M4.out.grown hg (by simp;omega)).far (j:=w3.heap.size) (i:=2) (.slice a5 l5.length c5) (by omega));have C5:=hid (hc.set (k:=w3.heap.size) (o:=2) (u:=.slice a5 l5.length c5) (by omega));have G5:=hid (wst_new (only_trans G4.out hg) (j:=w3.heap.size) (by omega) 2 (.slice a5 l5.length c5));have D6:=hid ((D5.out.set (k:=w3.heap.size) (o:=2) (u:=.slice a5 l5.length c5) l4).lower (B':=w.heap.size+1) (by omega));have X6:=hid (X5.out.s2 (.slice a5 l5.length c5));have cc:=X5.out.cells;have ff:=X5.out.loose;have dd:=X6.out.cells;have d6:=M5.out.cells;have e6:=M5.out.loose;clear c4 f4 d4 e4 hc hg q1 q2 q3 q4 q5 l3 l4
  go_wp2
  have l3:=HL3.out;have d3:=(set4 M5.out g u (.slice a5 l5.length c5) t).cells;exact any_end g u (.slice a5 l5.length c5) l5 t (by simp [results,Tryz.results95,go_sem,d3]) D6.out (Nat.le_trans HT.out (by decide)) C5.out G5.out (by omega)
 by_cases h3:k=3
 ·subst h3
  obtain ⟨r,hr,hr2⟩:∃ r:Nat,(x:Int).tmod 2=(r:Int)∧r<2:=tmodTwo x
  have hrI:(0:Int)≤(r:Int)∧(r:Int)<2:=by omega
  go_wp2_with fail
  rw [show (60:Int)+(r:Int)=((60+r:Nat):Int) by omega];refine (long_any (60+r) 97 _ (by omega)).mono ?_;rintro e w5 ⟨bs,hbs,rfl,hb⟩;have l3:=HL3.out;have l4:=LW4.out;have X5:=hid (X4.out.later hb);have M5:=hid ((M4.out.later hb).far (j:=w3.heap.size) (i:=3) (.string ⟨bs.toArray⟩) (by omega));have C5:=hid ((C4.out.later hb C4.out.lt).set (k:=w3.heap.size) (o:=3) (u:=.string ⟨bs.toArray⟩) (by omega));have G5:=hid (wst_new (only_trans G4.out (grown_below hb (some cb))) (j:=w3.heap.size) (by omega) 3 (.string ⟨bs.toArray⟩));have D5:=hid ((D4.out.later hb).far (k:=w3.heap.size) (o:=3) (u:=.string ⟨bs.toArray⟩) (by intro y hy;have:=FB.out y hy;omega));have X6:=hid (X5.out.s3 ⟨bs.toArray⟩)
  have HB:Hid ((⟨bs.toArray⟩:ByteArray).size≤100):=by show bs.toArray.size≤100;simp [hbs];omega
  have cc:=X5.out.cells;have ff:=X5.out.loose;have dd:=X6.out.cells;have d6:=M5.out.cells;have e6:=M5.out.loose;clear c4 f4 d4 e4 hb l3 l4 hbs;obtain ⟨tt,htt⟩:∃ tt:ByteArray,⟨bs.toArray⟩=tt:=⟨_,rfl⟩;rw [htt] at M5 C5 G5 D5 X6 HB d6 e6 dd ⊢;clear htt
  go_wp2
  have l3:=HL3.out;have d3:=(set4 M5.out g u (.slice av 3 cv) tt).cells;exact any_end g u (.slice av 3 cv) l tt (by simp [results,Tryz.results95,go_sem,d3]) D5.out HB.out C5.out G5.out (by omega)
 have hk0:((k:Int) == 0)=false:=beq_eq_false_iff_ne.2 (by omega);have hk1:((k:Int) == 1)=false:=beq_eq_false_iff_ne.2 (by omega);have hk2:((k:Int) == 2)=false:=beq_eq_false_iff_ne.2 (by omega);have hk3:((k:Int) == 3)=false:=beq_eq_false_iff_ne.2 (by omega)
 go_wp2
 have l3:=HL3.out;have d3:=(set4 M4.out g u (.slice av 3 cv) t).cells;exact any_end g u (.slice av 3 cv) l t (by simp [results,Tryz.results95,go_sem,d3]) D4.out (Nat.le_trans HT.out (by decide)) C4.out G4.out (by omega)
def okc (c:UInt8):Bool:=(decide (97≤c.toNat)&&decide (c.toNat≤122)) || (decide (48≤c.toNat)&&decide (c.toNat≤57))
def nmOk (s:ByteArray):Bool:=s.data.toList.all okc&&(decide (1≤(s.size:Int))&&decide ((s.size:Int)≤12))
theorem data_len (s:ByteArray):s.data.toList.length=s.size:=Array.length_toList
theorem data_take (s:ByteArray) (k:Nat) (h:k<s.size):s.data.toList.take (k+1)=s.data.toList.take k++[s[k]]:=by
 rw [List.take_succ_eq_append_getElem (by rw [data_len];exact h)];rfl
theorem okc_take {s:ByteArray} {k:Nat} (h:k<s.size) (ha:(s.data.toList.take k).all okc=true) (hc:okc s[k]=true):(s.data.toList.take (k+1)).all okc=true:=by
 rw [data_take s k h,List.all_append,ha,Bool.true_and]
 show (okc s[k]&&true)=true
 rw [hc];rfl
theorem nm_bad {s:ByteArray} {k:Nat} (h:k<s.size) (hc:okc s[k]=false):nmOk s=false:=by
 have:s.data.toList.all okc=false:=by
  rw [List.all_eq_false];refine ⟨s[k],?_,by simp [hc]⟩;exact List.getElem_mem (l:=s.data.toList) (n:=k) (by rw [data_len];exact h)
 rw [nmOk,this];rfl
theorem nm_fin {s:ByteArray} {k:Nat} (h:¬ k<s.size) (ha:(s.data.toList.take k).all okc=true):nmOk s=(decide (1≤(s.size:Int))&&decide ((s.size:Int)≤12)):=by
 rw [List.take_of_length_le (by rw [data_len];omega)] at ha;rw [nmOk,ha];rfl
theorem nm_len {s:ByteArray} (h:¬ (1≤(s.size:Int)∧(s.size:Int)≤12)):nmOk s=false:=by
 have:(decide (1≤(s.size:Int))&&decide ((s.size:Int)≤12))=false:=by
  by_cases h1:1≤(s.size:Int)
  ·have h2:¬ (s.size:Int)≤12:=fun x=>h ⟨h1,x⟩
   simp [h2]
  simp [h1]
 rw [nmOk,this,Bool.and_false]
theorem conv_s (w:World) (s:ByteArray):∃ (cp:Nat) (w':World),(convert 9 22 (.string s)).run Tryz.prog w=.ok (.slice (some ⟨w.heap.size,0,none⟩) s.size cp) w'∧Below w.heap.size w w' ∧
  (∀ j (h:j<s.size),w'.cell? ⟨w.heap.size,j,none⟩=some (.int .u8 (s[j].toNat:Int))):=by
 have h:=Lib.run_convert_string_bytes (P:=Tryz.prog) w 9 22 5 s Tryz.underlying9 Tryz.underlying22 Tryz.underlying5;refine ⟨_,_,h,⟨rfl,rfl,rfl,by rw [Lib.bytesWorld_size];omega,fun k hk=>Lib.bytesWorld_at_old w 5 _ k hk⟩,?_⟩;intro j hj;rw [Lib.bytesWorld_cell w 5 s j hj]
 have e:s.data.toList.getD j 0=s[j]:=by
  rw [List.getD,List.getElem?_eq_getElem (by rw [data_len];exact hj)];rfl
 first
  | rw [e]
  | simp [List.getD,hj,← e]
theorem okc_ways (b:UInt8) (c:Nat) (h:b.toNat=c):(okc b=true∧97≤c∧c≤122)∨(okc b=true∧48≤c∧c≤57)∨(okc b=false∧c<48)∨(okc b=false∧57<c∧c<97)∨(okc b=false∧122<c):=by
 unfold okc;rw [h]
 by_cases h1:97≤c
 ·by_cases h2:c≤122
  ·exact .inl ⟨by simp [h1,h2],h1,h2⟩
  refine .inr (.inr (.inr (.inr ⟨?_,by omega⟩)))
  have h3:¬ c≤57:=by omega
  simp [h2,h3]
 by_cases h2:48≤c
 ·by_cases h3:c≤57
  ·exact .inr (.inl ⟨by simp [h2,h3],h2,h3⟩)
  refine .inr (.inr (.inr (.inl ⟨by simp [h1,h3],by omega,by omega⟩)))
 exact .inr (.inr (.inl ⟨by simp [h1,h2],by omega⟩))
theorem specName_any (s:ByteArray) (w:World) (hs:s.size≤1048576) :
  Calls Tryz.prog 63 #[.string s] w fun e w'=>e=.returned (.bool (nmOk s))∧Below w.heap.size w w':=by
 go_enter Tryz.func63,Tryz.ntmps63
 go_wp2
 go_loopw [3] (fun iv wr=>∃ i:Nat,i≤s.size∧iv=.int .i64 (i:Int)∧Hid ((s.data.toList.take i).all okc=true)∧wr=w) (fun iv _=>s.size - (intOf iv).toNat)
 case atStart=>exact ⟨0,Nat.zero_le _,rfl,rfl,rfl⟩
 case round =>
  obtain ⟨i,hi,rfl,HA,hw⟩:=hrel;subst hw
  by_cases hlt:i<s.size
  ·obtain ⟨c,hcx⟩:∃ c:Nat,s[i].toNat=c:=⟨_,rfl⟩
   have hcb:c<256:=by rw [← hcx];exact s[i].toNat_lt
   rcases okc_ways s[i] c hcx with ⟨ho,h1,h2⟩ | ⟨ho,h1,h2⟩ | ⟨ho,h1⟩ | ⟨ho,h1,h2⟩ | ⟨ho,h1⟩
   ·have HO:=hid ho
    clear ho
    go_wp2
    go_roundw
    case rel=>exact ⟨i+1,by omega,by go_num,okc_take hlt HA.out HO.out,trivial⟩
    case measure=>simp [intOf];omega
   ·have HO:=hid ho
    clear ho
    go_wp2
    go_roundw
    case rel=>exact ⟨i+1,by omega,by go_num,okc_take hlt HA.out HO.out,trivial⟩
    case measure=>simp [intOf];omega
   all_goals
    have HO:=hid (nm_bad hlt ho);clear ho
    go_wp2
    go_ret
    exact ⟨by rw [HO.out];rfl,bre _⟩
  have HE:=hid (nm_fin hlt HA.out)
  by_cases hr:1≤(s.size:Int)∧(s.size:Int)≤12
  ·have HE2:Hid (nmOk s=true):=by show _=_;rw [HE.out];simp only [hr.1,hr.2,decide_true,Bool.and_self]
   go_wp2_with fail
   refine (l01In_yes _ 1 12 _ hr.1 hr.2).mono ?_;rintro e w1 ⟨rfl,h1⟩;subst h1
   go_wp2
   go_ret
   exact ⟨by rw [HE2.out];rfl,bre _⟩
  have HE2:=hid (nm_len hr)
  go_wp2_with fail
  refine (l01In_no _ 1 12 _ (by omega)).mono ?_;rintro e w1 ⟨rfl,h1⟩;subst h1
  go_wp2
  go_ret
  exact ⟨by rw [HE2.out];rfl,bre _⟩
theorem implName_any (s:ByteArray) (w:World) (hs:s.size≤1048576) :
  Calls Tryz.prog 98 #[.string s] w fun e w'=>e=.returned (.bool (nmOk s))∧Below w.heap.size w w':=by
 by_cases hr:1≤(s.size:Int)∧(s.size:Int)≤12
 ·obtain ⟨cp,W,hcv,hbw,hcs⟩:=conv_s w s
  have HB:=hid hbw;have HC:=hid hcs
  have hne:(s.toList == [])=false:=by
   rw [beq_eq_false_iff_ne];intro e;have e2:=congrArg List.length e;rw [ByteArray.toList_eq,data_len] at e2;simp only [List.length_nil] at e2
   omega
  clear hbw hcs
  go_enter Tryz.func98,Tryz.ntmps98
  go_wp2
  clear hcv hne
  go_loopw [15] (fun iv wr=>∃ i:Nat,i≤s.size∧iv=.int .i64 (i:Int)∧Hid ((s.data.toList.take i).all okc=true)∧wr=W) (fun iv _=>s.size - (intOf iv).toNat)
  case atStart=>exact ⟨0,Nat.zero_le _,rfl,rfl,rfl⟩
  case round =>
   obtain ⟨i,hi,rfl,HA,hw⟩:=hrel;subst hw
   by_cases hlt:i<s.size
   ·obtain ⟨c,hcx⟩:∃ c:Nat,s[i].toNat=c:=⟨_,rfl⟩
    have hcb:c<256:=by rw [← hcx];exact s[i].toNat_lt
    have hcell:=HC.out i hlt;have hw:=okc_ways s[i] c hcx;rw [hcx] at hcell
    have hI:(0:Int)≤(i:Int)∧(i:Int)<(s.size:Int):=by omega
    clear hcx
    rcases hw with ⟨ho,h1,h2⟩ | ⟨ho,h1,h2⟩ | ⟨ho,h1⟩ | ⟨ho,h1,h2⟩ | ⟨ho,h1⟩
    ·have HO:=hid ho
     clear ho
     go_wp2
     go_roundw
     case rel=>exact ⟨i+1,by omega,by go_num,okc_take hlt HA.out HO.out,trivial⟩
     case measure=>simp [intOf];omega
    ·have HO:=hid ho
     clear ho
     go_wp2
     go_roundw
     case rel=>exact ⟨i+1,by omega,by go_num,okc_take hlt HA.out HO.out,trivial⟩
     case measure=>simp [intOf];omega
    all_goals
     have HO:=hid (nm_bad hlt ho);clear ho
     go_wp2
     go_ret
     exact ⟨by rw [HO.out];rfl,HB.out⟩
   have HE2:Hid (nmOk s=true):=by show _=_;rw [nm_fin hlt HA.out];simp only [hr.1,hr.2,decide_true,Bool.and_self]
   go_wp2
   go_ret
   exact ⟨by rw [HE2.out];rfl,HB.out⟩
 have HE2:=hid (nm_len hr)
 by_cases h0:s.size=0
 ·obtain rfl:s=⟨#[]⟩:=ByteArray.ext (Array.eq_empty_of_size_eq_zero h0)
  clear hr h0 hs
  go_enter Tryz.func98,Tryz.ntmps98
  go_wp2
  go_ret
  exact ⟨by rw [HE2.out];rfl,bre _⟩
 have h12:12<(s.size:Int):=by omega
 have hne:(s.toList == [])=false:=by
  rw [beq_eq_false_iff_ne];intro e;have e2:=congrArg List.length e;rw [ByteArray.toList_eq,data_len] at e2;simp only [List.length_nil] at e2
  omega
 clear hr
 go_enter Tryz.func98,Tryz.ntmps98
 go_wp2
 go_ret
 exact ⟨by rw [HE2.out];rfl,bre _⟩
theorem name_l (s:ByteArray) (hs:s.size≤1048576):∃ p:Bool,Hid (p=nmOk s)∧Hid (∀ w,Calls Tryz.prog 63 #[.string s] w fun e w'=>e=.returned (.bool p)∧Below w.heap.size w w')∧Hid (∀ w,Calls Tryz.prog 98 #[.string s] w fun e w'=>e=.returned (.bool p)∧Below w.heap.size w w') :=
 ⟨_,rfl,fun w=>specName_any s w hs,fun w=>implName_any s w hs⟩
end Go.Proofs.YtdkedgedkgabnaaGreatDoor
