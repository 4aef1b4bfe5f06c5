/- Tik, Til, Tim, Tin, Tio, Tip. -/
import Derived.Test.YtkbecgcbheopnaaGreatdTij
import Derived.Lib.AppendZerosOnto
namespace Go.Proofs.YtkbecgcbheopnaaGreat
open Go.RowKit Go.ChangeMaps
theorem own_cellsN {W:World} {B g N cap e s:Nat} {cur:Array Value} {R:List Value} (hb:W.heap[g]?=some (.cells cur e (0,0))) (hB:B≤g) (hN:N≤cap) (hc:cap≤maxLen) (hs:cur.size=cap*s) (hR:R.length=N*s) (hcell:∀ j,j<N*s→W.cell? ⟨g,j,none⟩=R[j]?) :
  W.ownsRow B e s (.slice (some ⟨g,0,none⟩) N cap) N R:=by
 refine ⟨hR,.inr ⟨g,cap,cur,rfl,hB,hb,hN,hc,hs,?_⟩⟩
 apply List.ext_getElem?
 intro j
 rw [List.getElem?_take]
 by_cases hj:j<N*s
 ·rw [if_pos hj]
  have h1:=hcell j hj
  rw [cell_of_row W g j cur e (0,0) hb] at h1
  rw [← h1]
  simp
 ·rw [if_neg hj,List.getElem?_eq_none (by omega)]
theorem run_copy_n {P:Program} (w:World) (dT sT ty elem:TypeId) (b o dLen dCap:Nat) (a:Addr) (sLen sCap size:Nat) (cs:List Value)
  (hu:P.underlying dT=some (.slice elem)) (hs:(P.info? elem).map (·.size)=some size) (hn:cs.length=Nat.min sLen dLen*size)
  (hsrc:∀ j v,cs[j]?=some v→w.cell? (a.add j)=some v) (hc:∀ j,j<cs.length→(w.cell? ⟨b,o+j,none⟩).isSome=true) (hf:∀ j,j<cs.length→w.frozen? ⟨b,o+j,none⟩=false) (h1:∀ v∈cs,v.oneCell'=true) :
  (Builtin.copy_ #[dT,sT] ty #[.slice (some ⟨b,o,none⟩) dLen dCap,.slice (some a) sLen sCap]).run P w=.ok (goInt (Nat.min sLen dLen)) (w.setCells b o cs):=by
 have hl:=run_loadCells_list (P:=P) w a cs hsrc
 have hst:=run_storeCells_cells (P:=P) b o cs 0 w (by simpa using hc) (by simpa using hf) h1
 rw [hn] at hl
 cases hq:P.info? elem with
 | none=>simp [hq] at hs
 | some i =>
  have hi:i.size=size:=by simpa [hq] using hs
  simp [Builtin.copy_,run_underlying hu,Builtin.lenOf,Builtin.firstCells,sizeOf,typeInfo,hq,hi,hl,hst]
theorem size_bx:(Tryz.prog.info? 37).map (·.size)=some 7:=by kernel_rfl
set_option maxHeartbeats 4000000 in
set_option maxRecDepth 100000 in
theorem insBx_shift (b n c i vb:Nat) (cs vs:List Value) (w:World) (hi:i<n) (hroom:n+1≤c) (hc63:c≤9223372036854775807) (hvb:vb≠b) (hcl:cs.length=n*7) (hvl:vs.length=7)
  (hcs:∀ j v,cs[j]?=some v→w.cell? ⟨b,j,none⟩=some v) (hsp:∀ j,j<(n+1)*7→(w.cell? ⟨b,j,none⟩).isSome=true) (hfz:∀ j,w.frozen? ⟨b,j,none⟩=false)
  (hvs:∀ j v,vs[j]?=some v→w.cell? ⟨vb,j,none⟩=some v) (h1c:∀ v∈cs,v.oneCell'=true) (h1v:∀ v∈vs,v.oneCell'=true)
  (tA tB:TypeId) (kA kB:Nat) (hsa:w.shape? vb=some (tA,kA)) (hsb:w.shape? b=some (tB,kB)) (hkB:kB≠0) (hfa:∀ j,w.frozen? ⟨vb,j,none⟩=false) :
  Calls Tryz.prog 99 #[.slice (some ⟨b,0,none⟩) n c,.int .i64 i,.slice (some ⟨vb,0,none⟩) 1 1] w fun e w' =>
   e=.returned (.slice (some ⟨b,0,none⟩) (n+1) c)∧w'=(w.drew.setCells b ((i+1)*7) (cs.drop (i*7))).setCells b (i*7) vs:=by
 have hz2:¬ ((i:Int)=(n:Int)):=by omega
 have hov:∀ lb cb,(callFunc 131 #[.slice (some ⟨vb,0,none⟩) 1 1,.slice (some ⟨b,(i+1)*7,none⟩) lb cb]).run Tryz.prog w=.ok (.value (.bool false)) w:=fun lb cb=>by
  rw [run_callFunc_extern Tryz.func131 (by kernel_rfl) (by kernel_rfl) (by kernel_rfl) (e:=Extern.SlicesOverlaps.overlaps #[24,24] #[4]) (by kernel_rfl),
    Lib.run_overlaps_apart w 24 4 37 Tryz.underlying24 7 Tryz.sizeOf37 ⟨vb,0,none⟩ ⟨b,(i+1)*7,none⟩ 1 1 lb cb hvb tA tB kA kB hsa hsb hkB (hfa _) (hfa _)]
  rfl
 have hdl:(cs.drop (i*7)).length=(n - i)*7:=by rw [List.length_drop,hcl,Nat.sub_mul]
 have hw1:IntKind.i64.wrap ((i:Int)+1)=(i:Int)+1:=by rw [IntKind.wrap_i64];omega
 have hb1:(0:Int)≤(i:Int)+1:=by omega
 have hin:i≤n:=by omega
 have htn:((i:Int)+1).toNat=i+1:=by omega
 have hb2:¬ (c=i+1):=by omega
 have hb3:(i:Int)≤(n:Int)+1:=by omega
 have hb4:¬ (c=i):=by omega
 have hmin:Nat.min (n+1 - i) (n - i)=n - i:=by simp only [Nat.min_def];split <;> omega
 have hcp1:∀ ty dc sc,(Builtin.copy_ #[24,24] ty #[.slice (some ⟨b,(i+1)*7,none⟩) (n - i) dc,.slice (some ⟨b,i*7,none⟩) (n+1 - i) sc]).run Tryz.prog w.drew=.ok (goInt (Nat.min (n+1 - i) (n - i))) (w.drew.setCells b ((i+1)*7) (cs.drop (i*7))):=fun ty dc sc =>
  run_copy_n w.drew _ _ ty 37 b ((i+1)*7) (n - i) dc ⟨b,i*7,none⟩ (n+1 - i) sc 7 (cs.drop (i*7)) Tryz.underlying24 size_bx (by rw [hdl,hmin])
   (fun j v hj=>by rw [Addr.add_lit];exact hcs (i*7+j) v (by rwa [List.getElem?_drop] at hj))
   (fun j hj=>hsp _ (by rw [hdl] at hj;omega)) (fun j _=>hfz _) (fun v hv=>h1c v (List.mem_of_mem_drop hv))
 obtain ⟨W1,hW1⟩:∃ W1,W1=w.drew.setCells b ((i+1)*7) (cs.drop (i*7)):=⟨_,rfl⟩
 have hsp1:∀ k,k<(n+1)*7→(W1.cell? ⟨b,k,none⟩).isSome=true:=fun k hk=>by
  rw [hW1]
  exact isSome_setCells b (cs.drop (i*7)) ((i+1)*7) w.drew (fun j hj=>hsp ((i+1)*7+j) (by rw [hdl] at hj;omega)) k (hsp k hk)
 have hmin2:Nat.min 1 (n+1 - i)=1:=by simp only [Nat.min_def];split <;> omega
 have hcp2:∀ (W:World),(∀ x,W.cell? x=W1.cell? x)→(∀ x,W.frozen? x=W1.frozen? x)→∀ ty dc,(Builtin.copy_ #[24,24] ty #[.slice (some ⟨b,i*7,none⟩) (n+1 - i) dc,.slice (some ⟨vb,0,none⟩) 1 1]).run Tryz.prog W=.ok (goInt (Nat.min 1 (n+1 - i))) (W.setCells b (i*7) vs):=fun W hWc hWf ty dc =>
  run_copy_n W _ _ ty 37 b (i*7) (n+1 - i) dc ⟨vb,0,none⟩ 1 1 7 vs Tryz.underlying24 size_bx (by rw [hvl,hmin2])
   (fun j v hj=>by
     rw [Addr.add_lit,hWc,hW1,World.cell?_setCells_out b _ _ _ _ (fun h _=>absurd h hvb),Nat.zero_add]
     exact hvs j v hj)
   (fun j hj=>by rw [hWc];exact hsp1 _ (by rw [hvl] at hj;omega)) (fun j _=>by rw [hWf,hW1,World.frozen?_setCells];exact hfz _) h1v
 rw [← hW1] at hcp1 ⊢
 go_enter Tryz.func99,Tryz.ntmps99
 go_wp2_with (simp only [hov])
 go_region_law (refine step_copy_runI rfl _ _ 24 24 rfl _ _ (by simp [Act.eval,Act.put]) (by simp [Act.eval,Act.put]) (hcp1 _ _ _) ?_)
 go_wp2_with (at_builtin;refine wpList_copy_runI _ rfl _ _ 24 24 rfl _ _ rfl rfl (hcp2 _ (fun _=>rfl) (fun _=>rfl) _ _) ?_)
 go_ret
 first | exact ⟨rfl,rfl⟩ | exact ⟨rfl,by rw [hW1]⟩
abbrev zbx:Value:=.agg #[.int .i64 0,.string ⟨#[]⟩,.int .i64 0,.int .i64 0,.int .i64 0,.slice none 0 0,.slice none 0 0]
theorem zbx_cells:zbx.cells=#[.int .i64 0,.string ⟨#[]⟩,.int .i64 0,.int .i64 0,.int .i64 0,.slice none 0 0,.slice none 0 0]:=by rfl
theorem zbx_size (k:Nat):(Builtin.zeroCells zbx.cells k).size=k*7:=by rw [zbx_cells];simp [Builtin.zeroCells]
set_option maxHeartbeats 4000000 in
set_option maxRecDepth 100000 in
theorem insBx_grow (b n c i vb:Nat) (cs vs:List Value) (w:World) (hi:i<n) (hnc:n≤c) (hroom:c<n+1) (hbig:n≤1048576) (hcl:cs.length=n*7) (hvl:vs.length=7)
  (hcs:∀ j v,cs[j]?=some v→w.cell? ⟨b,j,none⟩=some v) (hvs:∀ j v,vs[j]?=some v→w.cell? ⟨vb,j,none⟩=some v) (h1c:∀ v∈cs,v.oneCell'=true) (h1v:∀ v∈vs,v.oneCell'=true) :
  Calls Tryz.prog 99 #[.slice (some ⟨b,0,none⟩) n c,.int .i64 i,.slice (some ⟨vb,0,none⟩) 1 1] w fun e w' =>
   e=.returned (.slice (some ⟨w.heap.size,0,none⟩) (n+1) (grownCap w (n+1) c 37)) ∧
   w'=(((w.alloc (.cells ((cs.take (i*7)).toArray++Builtin.zeroCells zbx.cells (n+1 - i)++Builtin.zeroCells zbx.cells (grownCap w (n+1) c 37 - (n+1))) 37)).drew.setCells w.heap.size (i*7) vs).drew).setCells w.heap.size ((i+1)*7) (cs.drop (i*7)):=by
 obtain ⟨i0,hi0,hz0,hzs,hzb⟩:=info_parts3 info_bx
 have hz2:¬ ((i:Int)=(n:Int)):=by omega
 have hz3:(c:Int)<(n:Int)+1:=by omega
 have hbw:b<w.heap.size:=block_lt_of_cell (hcs 0 _ (List.getElem?_eq_getElem (by omega)))
 have hvw:vb<w.heap.size:=block_lt_of_cell (hvs 0 _ (List.getElem?_eq_getElem (by omega)))
 have hkk:(n:Int)+1 - (i:Int)=((n+1 - i:Nat):Int):=by omega
 have hik:i+(n+1 - i)=n+1:=by omega
 have hold:(Builtin.firstCells i0.size i (.slice (some ⟨b,0,none⟩) i c)).run Tryz.prog w.drew=.ok (cs.take (i*7)).toArray w.drew:=by
  rw [hzs]
  exact run_firstCells_some w.drew 7 i ⟨b,0,none⟩ i c (cs.take (i*7)) (by rw [List.length_take];omega) (fun j v hj=>by
    rw [Addr.add_lit,Nat.zero_add]
    rw [List.getElem?_take] at hj
    split at hj
    · exact hcs j v hj
    · cases hj)
 have hrz:∀ ty,(Builtin.append_ #[24,3] ty #[.slice (some ⟨b,0,none⟩) i c,.int .i64 ((n:Int)+1 - (i:Int))]).run Tryz.prog w =
   .ok (.slice (some ⟨w.heap.size,0,none⟩) (n+1) (grownCap w (n+1) c 37)) (w.drew.alloc (.cells ((cs.take (i*7)).toArray++Builtin.zeroCells zbx.cells (n+1 - i)++Builtin.zeroCells zbx.cells (grownCap w (n+1) c 37 - (n+1))) 37)):=fun ty=>by
  have h:=Lib.run_append_grow_zeros w 24 3 ty 37 i0 _ .i64 .i64 Tryz.underlying24 Tryz.underlying3 hi0 hz0 (some ⟨b,0,none⟩) i c (cs.take (i*7)) hold (n+1 - i) (by omega) (by omega) (by omega) (by omega) (by rw [hzb];omega) (by rw [hzb,hik];exact growslice_fits hroom (by omega))
  rw [hik] at h
  rw [hkk]
  exact h
 obtain ⟨G,hG⟩:∃ G,G=grownCap w (n+1) c 37:=⟨_,rfl⟩
 obtain ⟨ROW,hROW⟩:∃ ROW:Array Value,ROW=(cs.take (i*7)).toArray++Builtin.zeroCells zbx.cells (n+1 - i)++Builtin.zeroCells zbx.cells (G - (n+1)):=⟨_,rfl⟩
 rw [← hG] at hrz ⊢
 rw [← hROW] at hrz ⊢
 have hRl:(n+1)*7≤ROW.size:=by
  rw [hROW,Array.size_append,Array.size_append,zbx_size,zbx_size]
  simp only [List.size_toArray,List.length_take]
  omega
 obtain ⟨W1,hW1⟩:∃ W1,W1=w.drew.alloc (.cells ROW 37):=⟨_,rfl⟩
 rw [← hW1] at hrz
 have hN:∀ j,j<(n+1)*7→(W1.cell? ⟨w.heap.size,j,none⟩).isSome=true:=fun j hj=>by
  rw [hW1,World.cell?_alloc_at (w:=w.drew) ROW _ w.heap.size j rfl,Array.getElem?_eq_getElem (by omega)];rfl
 have hNf:∀ j,W1.frozen? ⟨w.heap.size,j,none⟩=false:=fun j=>by rw [hW1];exact World.frozen?_alloc_at (w:=w.drew) ROW _ w.heap.size j rfl
 have hOb:∀ j v,w.cell? ⟨b,j,none⟩=some v→W1.cell? ⟨b,j,none⟩=some v:=fun j v h=>by rw [hW1,World.cell?_alloc_past (w:=w.drew) _ b j hbw];exact h
 have hOv:∀ j v,w.cell? ⟨vb,j,none⟩=some v→W1.cell? ⟨vb,j,none⟩=some v:=fun j v h=>by rw [hW1,World.cell?_alloc_past (w:=w.drew) _ vb j hvw];exact h
 have hmin2:Nat.min 1 (n+1 - i)=1:=by simp only [Nat.min_def];split <;> omega
 have hcpA:∀ (W:World),(∀ x,W.cell? x=W1.cell? x)→(∀ x,W.frozen? x=W1.frozen? x)→∀ ty dc,(Builtin.copy_ #[24,24] ty #[.slice (some ⟨w.heap.size,i*7,none⟩) (n+1 - i) dc,.slice (some ⟨vb,0,none⟩) 1 1]).run Tryz.prog W=.ok (goInt (Nat.min 1 (n+1 - i))) (W.setCells w.heap.size (i*7) vs):=fun W hWc hWf ty dc =>
  run_copy_n W _ _ ty 37 w.heap.size (i*7) (n+1 - i) dc ⟨vb,0,none⟩ 1 1 7 vs Tryz.underlying24 size_bx (by rw [hvl,hmin2])
   (fun j v hj=>by rw [Addr.add_lit,hWc,Nat.zero_add];exact hOv _ v (hvs j v hj))
   (fun j hj=>by rw [hWc];exact hN _ (by rw [hvl] at hj;omega)) (fun j hj=>by rw [hWf];exact hNf _) h1v
 have hGn:n+1≤G:=by rw [hG];exact grownCap_ge w _ _ _
 have hG63:G≤9223372036854775807:=by
  have:=grownCap_le_maxLen w (n+1) c 37 (by unfold maxLen;omega)
  rw [← hG] at this
  unfold maxLen at this
  omega
 have hGi:¬ (G=i):=by omega
 have hGim:¬ (G=i+1):=by omega
 have hci:¬ (c=i):=by omega
 have hbN:b≠w.heap.size:=by omega
 have hdl:(cs.drop (i*7)).length=(n - i)*7:=by rw [List.length_drop,hcl,Nat.sub_mul]
 have hmin:Nat.min (n - i) (n - i)=n - i:=by simp only [Nat.min_def];split <;> omega
 have hcpB:∀ (W:World),(∀ x,W.cell? x=(W1.setCells w.heap.size (i*7) vs).cell? x)→(∀ x,W.frozen? x=(W1.setCells w.heap.size (i*7) vs).frozen? x)→∀ ty dc sc,(Builtin.copy_ #[24,24] ty #[.slice (some ⟨w.heap.size,(i+1)*7,none⟩) (n - i) dc,.slice (some ⟨b,i*7,none⟩) (n - i) sc]).run Tryz.prog W=.ok (goInt (Nat.min (n - i) (n - i))) (W.setCells w.heap.size ((i+1)*7) (cs.drop (i*7))):=fun W hWc hWf ty dc sc =>
  run_copy_n W _ _ ty 37 w.heap.size ((i+1)*7) (n - i) dc ⟨b,i*7,none⟩ (n - i) sc 7 (cs.drop (i*7)) Tryz.underlying24 size_bx (by rw [hdl,hmin])
   (fun j v hj=>by
     rw [Addr.add_lit,hWc,World.cell?_setCells_out _ _ _ _ _ (fun h _=>absurd h hbN)]
     exact hOb _ v (hcs (i*7+j) v (by rwa [List.getElem?_drop] at hj)))
   (fun j hj=>by rw [hWc];exact isSome_setCells _ _ _ _ (fun t ht=>hN _ (by rw [hvl] at ht;omega)) _ (hN _ (by rw [hdl] at hj;omega)))
   (fun j hj=>by rw [hWf,World.frozen?_setCells];exact hNf _) (fun v hv=>h1c v (List.mem_of_mem_drop hv))
 subst hW1
 have hE1:∀ x,((w.alloc (.cells ROW 37)).drew).cell? x=(w.drew.alloc (.cells ROW 37)).cell? x:=fun x=>rfl
 have hE2:∀ x,((w.alloc (.cells ROW 37)).drew).frozen? x=(w.drew.alloc (.cells ROW 37)).frozen? x:=fun x=>rfl
 have hF1:∀ x,(((w.alloc (.cells ROW 37)).drew.setCells w.heap.size (i*7) vs).drew).cell? x=((w.drew.alloc (.cells ROW 37)).setCells w.heap.size (i*7) vs).cell? x:=fun x=>rfl
 have hF2:∀ x,(((w.alloc (.cells ROW 37)).drew.setCells w.heap.size (i*7) vs).drew).frozen? x=((w.drew.alloc (.cells ROW 37)).setCells w.heap.size (i*7) vs).frozen? x:=fun x=>rfl
 have hw1:IntKind.i64.wrap ((i:Int)+1)=(i:Int)+1:=by rw [IntKind.wrap_i64];omega
 have hb1:(0:Int)≤(i:Int)+1:=by omega
 have hin:i≤n:=by omega
 have htn:((i:Int)+1).toNat=i+1:=by omega
 have hb3:(i:Int)≤(n:Int):=by omega
 clear hkk hik hold hROW hG hRl
 go_enter Tryz.func99,Tryz.ntmps99
 go_wp2_with (first
   | (at_builtin;refine Lib.wpList_append_run _ rfl _ _ _ _ rfl _ _ rfl rfl _ _ (hrz _) ?_)
   | (at_builtin;refine wpList_copy_runI _ rfl _ _ 24 24 rfl _ _ rfl rfl (hcpA _ hE1 hE2 _ _) ?_)
   | (at_builtin;refine wpList_copy_runI _ rfl _ _ 24 24 rfl _ _ rfl rfl (hcpB _ (fun _=>rfl) (fun _=>rfl) _ _ _) ?_))
 go_region_law (refine step_copy_runI rfl _ _ 24 24 rfl (.slice (some ⟨w.heap.size,(i+1)*7,none⟩) (n - i) (G - (i+1))) (.slice (some ⟨b,i*7,none⟩) (n - i) (c - i)) (by simp [Act.eval,Act.put]) (by simp [Act.eval,Act.put]) (hcpB _ hF1 hF2 3 (G - (i+1)) (c - i)) ?_)
 go_wp2
 go_ret
 exact ⟨rfl,rfl⟩
theorem yc_take (Y:List Y9) (i:Nat) (h:i≤Y.length):yc (Y.take i)=(yc Y).take (i*7):=by
 have e:yc Y=yc (Y.take i)++yc (Y.drop i):=by rw [← yc_app,List.take_append_drop]
 have hl:(yc (Y.take i)).length=i*7:=by rw [yc_len,List.length_take,Nat.min_eq_left h]
 rw [e]
 exact (List.take_left' hl).symm
theorem yc_drop (Y:List Y9) (i:Nat) (h:i≤Y.length):yc (Y.drop i)=(yc Y).drop (i*7):=by
 have e:yc Y=yc (Y.take i)++yc (Y.drop i):=by rw [← yc_app,List.take_append_drop]
 have hl:(yc (Y.take i)).length=i*7:=by rw [yc_len,List.length_take,Nat.min_eq_left h]
 rw [e]
 exact (List.drop_left' hl).symm
def insY (i:Nat) (y:Y9) (Y:List Y9):List Y9:=Y.take i++y::Y.drop i
theorem insY_len {i:Nat} {y:Y9} {Y:List Y9} (h:i≤Y.length):(insY i y Y).length=Y.length+1:=by
 unfold insY
 simp only [List.length_append,List.length_cons,List.length_take,List.length_drop]
 omega
theorem insY_perm (i:Nat) (y:Y9) (Y:List Y9):(insY i y Y).Perm (Y++[y]):=by
 unfold insY
 have h1:(Y.take i++y::Y.drop i).Perm (y::(Y.take i++Y.drop i)):=List.perm_middle
 rw [List.take_append_drop] at h1
 exact h1.trans (List.perm_append_singleton y Y).symm
theorem yc_ins {i:Nat} {y:Y9} {Y:List Y9} (h:i≤Y.length):yc (insY i y Y)=(yc Y).take (i*7)++(yc [y]++(yc Y).drop (i*7)):=by
 unfold insY
 rw [yc_app,yc_take Y i h]
 congr 1
 rw [← yc_drop Y i h,← yc_app]
 rfl
theorem ins_lt {cs vs:List Value} {a j:Nat} (ha:a≤cs.length) (h:j<a):(cs.take a++(vs++cs.drop a))[j]?=cs[j]?:=by
 rw [List.getElem?_append_left (by rw [List.length_take];omega),List.getElem?_take_of_lt h]
theorem ins_mid {cs vs:List Value} {a j:Nat} (ha:a≤cs.length) (h:a≤j) (h2:j<a+vs.length):(cs.take a++(vs++cs.drop a))[j]?=vs[j - a]?:=by
 rw [List.getElem?_append_right (by rw [List.length_take];omega),List.length_take,Nat.min_eq_left ha,List.getElem?_append_left (by omega)]
theorem ins_gt {cs vs:List Value} {a j:Nat} (ha:a≤cs.length) (h:a+vs.length≤j):(cs.take a++(vs++cs.drop a))[j]?=(cs.drop a)[j - (a+vs.length)]?:=by
 rw [List.getElem?_append_right (by rw [List.length_take];omega),List.length_take,Nat.min_eq_left ha,List.getElem?_append_right (by omega)]
 congr 1
 omega
theorem OwS.ins {w w':World} {B:Nat} {v v':Value} {Y Y':List Y9} (hown:OwS w B v Y) (y:Y9) (ho:OwX w y.lo y.hi y.mv y.gv y.L y.G) (hB:B≤y.lo) (hv:∀ j,v.ownBlock=some j→j<y.lo∨y.hi≤j) (hd:∀ x∈Y,x.hi≤y.lo∨y.hi≤x.lo) (o:Obj) (hp:Y'.Perm (Y++[y]))
  (hrow:w'.ownsRow B 37 7 v' Y'.length (yc Y')) (hg:(w.alloc o).grownBy w' v.ownBlock) (hloc:∀ j,v'.ownBlock=some j→v.ownBlock=some j∨w.heap.size<j):OwS w' B v' Y':=by
 have hsz:w.heap.size≤w'.heap.size:=by have:=hg.size;simp at this;omega
 have hkeep:∀ {x:Y9},OwX w x.lo x.hi x.mv x.gv x.L x.G→(∀ j,v.ownBlock=some j→j<x.lo∨x.hi≤j)→OwX w' x.lo x.hi x.mv x.gv x.L x.G:=fun hx hf =>
  hx.same (Nat.le_trans hx.top hsz) (fun k k1 k2=>(hg.block k (by have:=hx.top;simp;omega) (fun e=>by have:=hf k e.symm;omega)).trans (Below.heap_alloc w o k (Nat.lt_of_lt_of_le k2 hx.top)))
 have hmem:∀ x∈Y',x∈Y∨x=y:=fun x hx=>by
  have h1:=hp.mem_iff.1 hx
  simpa using h1
 refine ⟨hrow,fun x hx=>?_,fun x hx j hj=>?_,?_⟩
 ·rcases hmem x hx with hx | rfl
  ·exact ⟨hkeep (hown.each x hx).1 (hown.off x hx),(hown.each x hx).2⟩
  ·exact ⟨hkeep ho hv,hB⟩
 ·have htop:x.hi≤w.heap.size:=by
   rcases hmem x hx with hx | rfl
   ·exact (hown.each x hx).1.top
   ·exact ho.top
  rcases hloc j hj with h | h
  ·rcases hmem x hx with hx | rfl
   ·exact hown.off x hx j h
   ·exact hv j h
  ·exact .inr (by omega)
 ·refine (hp.pairwise_iff (fun {a b} h=>h.symm)).2 ?_
  rw [List.pairwise_append]
  refine ⟨hown.apart,List.pairwise_singleton _ _,fun x hx z hz=>?_⟩
  simp only [List.mem_cons,List.not_mem_nil,or_false] at hz
  subst hz
  exact hd x hx
theorem grown_cells {a w:World} {g:Nat} (h:a.grownBy w (some g)):∀ (vs:List Value) (o:Nat),a.grownBy (w.setCells g o vs) (some g)
 | vs,o=>by
  induction vs generalizing o w with
  | nil=>exact h
  | cons v vs ih=>exact ih (wst h o v) (o+1)
theorem heap_drew (W:World):W.drew.heap=W.heap:=rfl
theorem cell_drew (W:World) (p:Addr):W.drew.cell? p=W.cell? p:=rfl
theorem OwX.one {W:World} {y:Y9} (h:OwX W y.lo y.hi y.mv y.gv y.L y.G):∀ u∈yc [y],u.oneCell'=true:=yc_one h.slices.1 h.slices.2
theorem OwS.ones {W:World} {B:Nat} {v:Value} {Y:List Y9} (h:OwS W B v Y):∀ u∈yc Y,u.oneCell'=true:=by
 have h2:=h.each
 clear h
 induction Y with
 | nil=>intro u hu;cases hu
 | cons y Y ih =>
  intro u hu
  have e:yc (y::Y)=yc [y]++yc Y:=by rw [← yc_app];rfl
  rw [e] at hu
  rcases List.mem_append.1 hu with hu | hu
  ·exact (h2 y (by simp)).1.one u hu
  ·exact ih (fun x hx=>h2 x (by simp [hx])) u hu
set_option maxHeartbeats 1600000 in
set_option maxRecDepth 100000 in
theorem insB_end (B:Nat) (v:Value) (i:Nat) (y:Y9) (Y:List Y9) (w:World) (hown:OwS w B v Y) (hn:Y.length≤1048575) (hi:i≤Y.length) (ho:OwX w y.lo y.hi y.mv y.gv y.L y.G) (hyB:B≤y.lo) (hv:∀ j,v.ownBlock=some j→j<y.lo∨y.hi≤j) (hd:∀ x∈Y,x.hi≤y.lo∨y.hi≤x.lo) (hB:B≤w.heap.size) (hlt:¬ i<Y.length) :
  Calls Tryz.prog 99 #[v,.int .i64 (i:Int),.slice (some ⟨w.heap.size,0,none⟩) 1 1] (w.alloc (.cells #[.int .i64 y.g,.string y.nm,.int .i64 y.t,.int .i64 y.b,.int .i64 y.nx,y.mv,y.gv] 37)) fun e w' =>
   ∃ v',e=.returned v'∧OwS w' B v' (insY i y Y)∧Below B w w'∧(w.alloc (.cells #[.int .i64 y.g,.string y.nm,.int .i64 y.t,.int .i64 y.b,.int .i64 y.nx,y.mv,y.gv] 37)).grownBy w' v.ownBlock∧(∀ j,v'.ownBlock=some j→v.ownBlock=some j∨w.heap.size<j):=by
 have hl1:(yc (insY i y Y)).length=(Y.length+1)*7:=by rw [yc_len,insY_len hi]
 have hml:Y.length+1≤maxLen:=by unfold maxLen;omega
 obtain rfl:i=Y.length:=by omega
 have e:insY Y.length y Y=Y++[y]:=by unfold insY;rw [List.take_length,List.drop_length]
 rw [e]
 obtain ⟨a,c,hva⟩:=hown.shape
 have hvv:∀ q:Nat,q=Y.length→v=.slice a q c:=fun q hq=>by rw [hq];exact hva
 obtain ⟨n,hnl⟩:∃ n,n=Y.length:=⟨_,rfl⟩
 have hsh:=hvv n hnl
 rw [← hnl]
 have HO:=hid hown
 have HX:=hid ho
 have HYB:=hid hyB
 have HV:=hid hv
 have HD:=hid hd
 have HNL:=hid hnl
 obtain ⟨W0,hW0⟩:∃ W0,w.alloc (.cells #[.int .i64 y.g,.string y.nm,.int .i64 y.t,.int .i64 y.b,.int .i64 y.nx,y.mv,y.gv] 37)=W0:=⟨_,rfl⟩
 have hn1:n≤1048575:=by omega
 clear hvv hl1 hml e hown ho hyB hv hd hn hi hlt hva hnl
 subst hsh
 rcases a with _ | ⟨ab,ao,asp⟩
 ·have hn0:n=0:=by
   rcases HO.out.row.2 with ⟨h1,_⟩ | ⟨g,cap,cur,h1,_⟩
   ·simp only [Value.slice.injEq] at h1;exact h1.2.1
   ·simp at h1
  subst hn0
  obtain rfl:c=0:=HO.out.nil0 rfl
  subst hW0
  go_enter Tryz.func99,Tryz.ntmps99
  go_wp2_with (at_builtin;refine wpList_append_bx rfl (.tmp 23) (.tmp 24) rfl B _ Y (by rfl) y HO.out HX.out HYB.out HV.out HD.out (by rfl) (by rw [← HNL.out];omega) hB ?_;intro v7 w7 ho7 hb7 hg7 hl7)
  go_ret
  exact ⟨_,rfl,ho7,hb7,hg7,hl7⟩
 ·subst hW0
  go_enter Tryz.func99,Tryz.ntmps99
  go_wp2_with (at_builtin;refine wpList_append_bx rfl (.tmp 23) (.tmp 24) rfl B _ Y (by rfl) y HO.out HX.out HYB.out HV.out HD.out (by rfl) (by rw [← HNL.out];omega) hB ?_;intro v7 w7 ho7 hb7 hg7 hl7)
  all_goals (go_ret;exact ⟨_,rfl,ho7,hb7,hg7,hl7⟩)
set_option maxHeartbeats 1600000 in
set_option maxRecDepth 100000 in
theorem insB_shift (B:Nat) (v:Value) (i:Nat) (y:Y9) (Y:List Y9) (w:World) (hown:OwS w B v Y) (hn:Y.length≤1048575) (hi:i≤Y.length) (ho:OwX w y.lo y.hi y.mv y.gv y.L y.G) (hyB:B≤y.lo) (hv:∀ j,v.ownBlock=some j→j<y.lo∨y.hi≤j) (hd:∀ x∈Y,x.hi≤y.lo∨y.hi≤x.lo) (hB:B≤w.heap.size) (hlt:i<Y.length) (g c:Nat) (hv0:v=.slice (some ⟨g,0,none⟩) Y.length c) (hroom:Y.length+1≤c) :
  Calls Tryz.prog 99 #[v,.int .i64 (i:Int),.slice (some ⟨w.heap.size,0,none⟩) 1 1] (w.alloc (.cells #[.int .i64 y.g,.string y.nm,.int .i64 y.t,.int .i64 y.b,.int .i64 y.nx,y.mv,y.gv] 37)) fun e w' =>
   ∃ v',e=.returned v'∧OwS w' B v' (insY i y Y)∧Below B w w'∧(w.alloc (.cells #[.int .i64 y.g,.string y.nm,.int .i64 y.t,.int .i64 y.b,.int .i64 y.nx,y.mv,y.gv] 37)).grownBy w' v.ownBlock∧(∀ j,v'.ownBlock=some j→v.ownBlock=some j∨w.heap.size<j):=by
 have hl1:(yc (insY i y Y)).length=(Y.length+1)*7:=by rw [yc_len,insY_len hi]
 have hml:Y.length+1≤maxLen:=by unfold maxLen;omega
 obtain ⟨W0,hW0⟩:∃ W0,w.alloc (.cells #[.int .i64 y.g,.string y.nm,.int .i64 y.t,.int .i64 y.b,.int .i64 y.nx,y.mv,y.gv] 37)=W0:=⟨_,rfl⟩
 have hvb:W0.heap[w.heap.size]?=some (.cells #[.int .i64 y.g,.string y.nm,.int .i64 y.t,.int .i64 y.b,.int .i64 y.nx,y.mv,y.gv] 37 (0,0)):=by subst hW0;exact heap_alloc_new w _
 have hvs:∀ (j:Nat) (u:Value),(yc [y])[j]?=some u→W0.cell? ⟨w.heap.size,j,none⟩=some u:=by
  intro j u hj
  have:=cells_new7 w y 37 j u hj
  rw [hW0,addr_add,Nat.zero_add] at this
  exact this
 have hs0:W0.heap.size=w.heap.size+1:=by subst hW0;simp
 have hrow0:W0.ownsRow B 37 7 v Y.length (yc Y):=by subst hW0;exact hown.row.alloc _
 subst hv0
 rcases hrow0.2 with ⟨_,h2⟩ | ⟨g',c',cur,hv0,hBg,hbl,hnc,hcm,hcs,_⟩
 ·omega
 simp only [Value.slice.injEq,Option.some.injEq,Addr.mk.injEq,and_true,true_and] at hv0
 obtain ⟨rfl,rfl⟩:=hv0
 have hgw:g<w.heap.size:=(hown.row.lt g rfl).2
 have hold:∀ j,j<Y.length*7→W0.cell? ⟨g,j,none⟩=(yc Y)[j]?:=fun j hj=>hrow0.cellAt j hj
 have holds:∀ j u,(yc Y)[j]?=some u→W0.cell? ⟨g,j,none⟩=some u:=fun j u hj=>by
  have hj':=(List.getElem?_eq_some_iff.1 hj).1
  rw [yc_len] at hj'
  rw [hold j hj',hj]
 have h1c:=hown.ones
 have h1v:=ho.one
 have hcl:(yc Y).length=Y.length*7:=yc_len Y
 have hvl:(yc [y]).length=7:=by rw [yc_len];rfl
 have hiy:i*7≤(yc Y).length:=by rw [hcl];omega
 have hdl:((yc Y).drop (i*7)).length=(Y.length - i)*7:=by rw [List.length_drop,hcl,Nat.sub_mul]
 rw [hW0]
 have hsome:∀ j,j<c*7→(W0.cell? ⟨g,j,none⟩).isSome=true:=fun j hj=>by rw [cell_of_row W0 g j cur 37 (0,0) hbl,Array.getElem?_eq_getElem (by omega)];rfl
 refine (insBx_shift g Y.length c i w.heap.size (yc Y) (yc [y]) W0 hlt hroom (by unfold maxLen at hcm;omega) (by omega) hcl hvl holds (fun j hj=>hsome j (by omega)) (fun j=>frozen_of_row W0 g j cur 37 hbl) hvs h1c h1v 37 37 7 cur.size ?_ ?_ (by omega) (fun j=>frozen_of_row W0 w.heap.size j _ 37 hvb)).mono ?_
 ·simp [World.shape?,hvb]
 ·simp [World.shape?,hbl]
 ·rintro e w' ⟨rfl,rfl⟩
  obtain ⟨c1,hb1,hs1⟩:=heap_setCells g 37 ((yc Y).drop (i*7)) ((i+1)*7) W0.drew cur hbl
  obtain ⟨c2,hb2,hs2⟩:=heap_setCells g 37 (yc [y]) (i*7) _ c1 hb1
  have hs1':∀ j,j<c*7→((W0.drew.setCells g ((i+1)*7) ((yc Y).drop (i*7))).cell? ⟨g,j,none⟩).isSome=true:=fun j hj=>by
   rw [cell_of_row _ g j c1 37 (0,0) hb1,Array.getElem?_eq_getElem (by omega)];rfl
  have hrow:=own_cellsN (B:=B) (s:=7) (R:=yc (insY i y Y)) hb2 hBg hroom hcm (by omega) hl1 (fun j hj=>by
    rw [yc_ins hi]
    by_cases h1:j<i*7
    · rw [World.cell?_setCells_out g _ _ _ _ (fun _ _=>by simp;omega),World.cell?_setCells_out g _ _ _ _ (fun _ _=>by simp;omega),ins_lt hiy h1]
      exact hold j (by omega)
    · by_cases h2:j<i*7+7
      · have:=World.cell?_setCells_in g (yc [y]) (i*7) (W0.drew.setCells g ((i+1)*7) ((yc Y).drop (i*7))) (fun t ht=>hs1' _ (by rw [hvl] at ht;omega)) (j - i*7) (by rw [hvl];omega)
        rw [show i*7+(j - i*7)=j by omega] at this
        rw [this,ins_mid hiy (by omega) (by rw [hvl];omega),List.getElem?_eq_getElem]
      · rw [World.cell?_setCells_out g _ _ _ _ (fun _ _=>by rw [hvl];simp;omega),ins_gt hiy (by rw [hvl];omega),hvl]
        have:=World.cell?_setCells_in g ((yc Y).drop (i*7)) ((i+1)*7) W0.drew (fun t ht=>hsome _ (by rw [hdl] at ht;omega)) (j - (i+1)*7) (by rw [hdl];omega)
        rw [show (i+1)*7+(j - (i+1)*7)=j by omega] at this
        rw [this,show j - (i*7+7)=j - (i+1)*7 by omega,List.getElem?_eq_getElem])
  have hg:W0.grownBy ((W0.drew.setCells g ((i+1)*7) ((yc Y).drop (i*7))).setCells g (i*7) (yc [y])) (some g):=grown_cells (grown_cells (grown_below (bdr (bre _)) _) _ _) _ _
  obtain ⟨WF,hWF⟩:∃ WF,(W0.drew.setCells g ((i+1)*7) ((yc Y).drop (i*7))).setCells g (i*7) (yc [y])=WF:=⟨_,rfl⟩
  rw [hWF] at hrow hg ⊢
  clear hWF hb1 hb2
  have hg2:(w.alloc (.cells #[.int .i64 y.g,.string y.nm,.int .i64 y.t,.int .i64 y.b,.int .i64 y.nx,y.mv,y.gv] 37)).grownBy WF (some g):=by rw [hW0];exact hg
  refine ⟨_,rfl,hown.ins y ho hyB hv hd _ (insY_perm i y Y) (by rw [insY_len hi];exact hrow) hg2 (fun j hj=>.inl hj),?_,hg,fun j hj=>.inl hj⟩
  exact ((Below.refl B w).alloc hB _).grown hg2 (by simp;omega) (fun k hk=>(hown.row.lt k hk).1)
set_option maxHeartbeats 1600000 in
set_option maxRecDepth 100000 in
theorem insB_grow (B:Nat) (v:Value) (i:Nat) (y:Y9) (Y:List Y9) (w:World) (hown:OwS w B v Y) (hn:Y.length≤1048575) (hi:i≤Y.length) (ho:OwX w y.lo y.hi y.mv y.gv y.L y.G) (hyB:B≤y.lo) (hv:∀ j,v.ownBlock=some j→j<y.lo∨y.hi≤j) (hd:∀ x∈Y,x.hi≤y.lo∨y.hi≤x.lo) (hB:B≤w.heap.size) (hlt:i<Y.length) (g c:Nat) (hv0:v=.slice (some ⟨g,0,none⟩) Y.length c) (hroom:¬ Y.length+1≤c) :
  Calls Tryz.prog 99 #[v,.int .i64 (i:Int),.slice (some ⟨w.heap.size,0,none⟩) 1 1] (w.alloc (.cells #[.int .i64 y.g,.string y.nm,.int .i64 y.t,.int .i64 y.b,.int .i64 y.nx,y.mv,y.gv] 37)) fun e w' =>
   ∃ v',e=.returned v'∧OwS w' B v' (insY i y Y)∧Below B w w'∧(w.alloc (.cells #[.int .i64 y.g,.string y.nm,.int .i64 y.t,.int .i64 y.b,.int .i64 y.nx,y.mv,y.gv] 37)).grownBy w' v.ownBlock∧(∀ j,v'.ownBlock=some j→v.ownBlock=some j∨w.heap.size<j):=by
 have hl1:(yc (insY i y Y)).length=(Y.length+1)*7:=by rw [yc_len,insY_len hi]
 have hml:Y.length+1≤maxLen:=by unfold maxLen;omega
 obtain ⟨W0,hW0⟩:∃ W0,w.alloc (.cells #[.int .i64 y.g,.string y.nm,.int .i64 y.t,.int .i64 y.b,.int .i64 y.nx,y.mv,y.gv] 37)=W0:=⟨_,rfl⟩
 have hvb:W0.heap[w.heap.size]?=some (.cells #[.int .i64 y.g,.string y.nm,.int .i64 y.t,.int .i64 y.b,.int .i64 y.nx,y.mv,y.gv] 37 (0,0)):=by subst hW0;exact heap_alloc_new w _
 have hvs:∀ (j:Nat) (u:Value),(yc [y])[j]?=some u→W0.cell? ⟨w.heap.size,j,none⟩=some u:=by
  intro j u hj
  have:=cells_new7 w y 37 j u hj
  rw [hW0,addr_add,Nat.zero_add] at this
  exact this
 have hs0:W0.heap.size=w.heap.size+1:=by subst hW0;simp
 have hrow0:W0.ownsRow B 37 7 v Y.length (yc Y):=by subst hW0;exact hown.row.alloc _
 subst hv0
 rcases hrow0.2 with ⟨_,h2⟩ | ⟨g',c',cur,hv0,hBg,hbl,hnc,hcm,hcs,_⟩
 ·omega
 simp only [Value.slice.injEq,Option.some.injEq,Addr.mk.injEq,and_true,true_and] at hv0
 obtain ⟨rfl,rfl⟩:=hv0
 have hgw:g<w.heap.size:=(hown.row.lt g rfl).2
 have hold:∀ j,j<Y.length*7→W0.cell? ⟨g,j,none⟩=(yc Y)[j]?:=fun j hj=>hrow0.cellAt j hj
 have holds:∀ j u,(yc Y)[j]?=some u→W0.cell? ⟨g,j,none⟩=some u:=fun j u hj=>by
  have hj':=(List.getElem?_eq_some_iff.1 hj).1
  rw [yc_len] at hj'
  rw [hold j hj',hj]
 have h1c:=hown.ones
 have h1v:=ho.one
 have hcl:(yc Y).length=Y.length*7:=yc_len Y
 have hvl:(yc [y]).length=7:=by rw [yc_len];rfl
 have hiy:i*7≤(yc Y).length:=by rw [hcl];omega
 have hdl:((yc Y).drop (i*7)).length=(Y.length - i)*7:=by rw [List.length_drop,hcl,Nat.sub_mul]
 rw [hW0]
 have hgc:=grownCap_ge W0 (Y.length+1) c 37
 have hgm:=grownCap_le_maxLen W0 (Y.length+1) c 37 hml
 refine (insBx_grow g Y.length c i w.heap.size (yc Y) (yc [y]) W0 hlt hnc (by omega) (by omega) hcl hvl holds hvs h1c h1v).mono ?_
 rintro e w' ⟨rfl,rfl⟩
 obtain ⟨gcap,hgcap⟩:∃ gcap,grownCap W0 (Y.length+1) c 37=gcap:=⟨_,rfl⟩
 rw [hgcap] at hgc hgm ⊢
 obtain ⟨ROW,hROW⟩:∃ ROW:Array Value,((yc Y).take (i*7)).toArray++Builtin.zeroCells zbx.cells (Y.length+1 - i)++Builtin.zeroCells zbx.cells (gcap - (Y.length+1))=ROW:=⟨_,rfl⟩
 rw [hROW]
 have hrs:ROW.size=gcap*7:=by
  rw [← hROW,Array.size_append,Array.size_append,zbx_size,zbx_size]
  simp only [List.size_toArray,List.length_take,hcl]
  omega
 have hb0:((W0.alloc (.cells ROW 37)).drew).heap[W0.heap.size]?=some (.cells ROW 37 (0,0)):=heap_alloc_new W0 _
 obtain ⟨c1,hb1,hs1⟩:=heap_setCells W0.heap.size 37 (yc [y]) (i*7) (W0.alloc (.cells ROW 37)).drew ROW hb0
 have hb1':(((W0.alloc (.cells ROW 37)).drew.setCells W0.heap.size (i*7) (yc [y])).drew).heap[W0.heap.size]?=some (.cells c1 37 (0,0)):=by rw [heap_drew];exact hb1
 obtain ⟨c2,hb2,hs2⟩:=heap_setCells W0.heap.size 37 ((yc Y).drop (i*7)) ((i+1)*7) _ c1 hb1'
 have hrow:=own_cellsN (B:=B) (s:=7) (R:=yc (insY i y Y)) hb2 (by omega) hgc hgm (by omega) hl1 (fun j hj=>by
   rw [yc_ins hi]
   by_cases h1:i*7+7≤j
   · rw [ins_gt hiy (by rw [hvl];omega),hvl]
     have:=World.cell?_setCells_in W0.heap.size ((yc Y).drop (i*7)) ((i+1)*7) (((W0.alloc (.cells ROW 37)).drew.setCells W0.heap.size (i*7) (yc [y])).drew) (fun t ht=>by
       rw [cell_of_row _ W0.heap.size _ c1 37 (0,0) hb1',Array.getElem?_eq_getElem (by rw [hdl] at ht;omega)];rfl) (j - (i+1)*7) (by rw [hdl];omega)
     rw [show (i+1)*7+(j - (i+1)*7)=j by omega] at this
     rw [this,show j - (i*7+7)=j - (i+1)*7 by omega,List.getElem?_eq_getElem]
   · rw [World.cell?_setCells_out W0.heap.size _ _ _ _ (fun _ _=>by simp;omega)]
     rw [cell_drew]
     by_cases h2:i*7≤j
     · have:=World.cell?_setCells_in W0.heap.size (yc [y]) (i*7) (W0.alloc (.cells ROW 37)).drew (fun t ht=>by
         rw [cell_of_row _ W0.heap.size _ ROW 37 (0,0) hb0,Array.getElem?_eq_getElem (by rw [hvl] at ht;omega)];rfl) (j - i*7) (by rw [hvl];omega)
       rw [show i*7+(j - i*7)=j by omega] at this
       rw [this,ins_mid hiy h2 (by rw [hvl];omega),List.getElem?_eq_getElem]
     · rw [World.cell?_setCells_out W0.heap.size _ _ _ _ (fun _ _=>by simp;omega),cell_of_row _ W0.heap.size j ROW 37 (0,0) hb0,ins_lt hiy (by omega),← hROW,Array.append_assoc,Array.getElem?_append_left (by simp only [List.size_toArray,List.length_take,hcl];omega)]
       simp only [List.getElem?_toArray,List.getElem?_take_of_lt (show j<i*7 by omega)])
 have hg:∀ r,W0.grownBy (((((W0.alloc (.cells ROW 37)).drew.setCells W0.heap.size (i*7) (yc [y])).drew).setCells W0.heap.size ((i+1)*7) ((yc Y).drop (i*7)))) r:=fun r =>
  grown_below (below_cells (Nat.le_refl _) _ _ (below_cells (Nat.le_refl _) _ _ ((Below.refl _ W0).alloc (Nat.le_refl _) _).drew).drew) r
 obtain ⟨WF,hWF⟩:∃ WF,((((W0.alloc (.cells ROW 37)).drew.setCells W0.heap.size (i*7) (yc [y])).drew).setCells W0.heap.size ((i+1)*7) ((yc Y).drop (i*7)))=WF:=⟨_,rfl⟩
 rw [hWF] at hrow hg ⊢
 clear hWF hb0 hb1 hb1' hb2
 have hg2:(w.alloc (.cells #[.int .i64 y.g,.string y.nm,.int .i64 y.t,.int .i64 y.b,.int .i64 y.nx,y.mv,y.gv] 37)).grownBy WF (some g):=by rw [hW0];exact hg _
 have hloc:∀ j,Value.ownBlock (.slice (some ⟨W0.heap.size,0,none⟩) (Y.length+1) gcap)=some j→Value.ownBlock (.slice (some ⟨g,0,none⟩) Y.length c)=some j∨w.heap.size<j:=fun j hj=>by
  have e:W0.heap.size=j:=by simpa [Value.ownBlock] using hj
  exact .inr (by omega)
 refine ⟨_,rfl,hown.ins y ho hyB hv hd _ (insY_perm i y Y) (by rw [insY_len hi];exact hrow) hg2 hloc,?_,hg _,hloc⟩
 exact ((Below.refl B w).alloc hB _).grown hg2 (by simp;omega) (fun k hk=>(hown.row.lt k hk).1)
set_option maxHeartbeats 1600000 in
set_option maxRecDepth 100000 in
theorem insertBx_any (B:Nat) (v:Value) (i:Nat) (y:Y9) (Y:List Y9) (w:World) (hown:OwS w B v Y) (hn:Y.length≤1048575) (hi:i≤Y.length) (ho:OwX w y.lo y.hi y.mv y.gv y.L y.G) (hyB:B≤y.lo) (hv:∀ j,v.ownBlock=some j→j<y.lo∨y.hi≤j) (hd:∀ x∈Y,x.hi≤y.lo∨y.hi≤x.lo) (hB:B≤w.heap.size) :
  Calls Tryz.prog 99 #[v,.int .i64 (i:Int),.slice (some ⟨w.heap.size,0,none⟩) 1 1] (w.alloc (.cells #[.int .i64 y.g,.string y.nm,.int .i64 y.t,.int .i64 y.b,.int .i64 y.nx,y.mv,y.gv] 37)) fun e w' =>
   ∃ v',e=.returned v'∧OwS w' B v' (insY i y Y)∧Below B w w'∧(w.alloc (.cells #[.int .i64 y.g,.string y.nm,.int .i64 y.t,.int .i64 y.b,.int .i64 y.nx,y.mv,y.gv] 37)).grownBy w' v.ownBlock∧(∀ j,v'.ownBlock=some j→v.ownBlock=some j∨w.heap.size<j):=by
 by_cases hlt:i<Y.length
 ·rcases hown.row.2 with ⟨_,h2⟩ | ⟨g,c,cur,hv0,_⟩
  ·omega
  by_cases hroom:Y.length+1≤c
  ·exact insB_shift B v i y Y w hown hn hi ho hyB hv hd hB hlt g c hv0 hroom
  ·exact insB_grow B v i y Y w hown hn hi ho hyB hv hd hB hlt g c hv0 hroom
 ·exact insB_end B v i y Y w hown hn hi ho hyB hv hd hB hlt
theorem step_append_runI {P:Program} {ops:Array Oper} {o:Oper} {a:Act} {w:World} {K:Act→World→Prop} {Q:Exit→Act→World→Prop} {E:Prop}
  (hg:o.guard=none) (d x:Operand) (dT sT:TypeId) (hop:o.op=Op.call { callee:=Callee.builtin Builtin.append,args:=#[d,x],argTypes:=#[dT,sT] })
  (v u:Value) (hd:a.eval d=v) (hx:a.eval x=u) {v':Value} {w':World} (hr:(Builtin.append_ #[dT,sT] o.type #[v,u]).run P w=.ok v' w') (hK:K (a.put o.dst v') w') :
  if Region.wanted o (yielded ops a.tmps)=true then Oper.wp P o a w K Q else E:=by
 have hw:Region.wanted o (yielded ops a.tmps)=true:=by simp [Region.wanted,hg]
 rw [if_pos hw]
 unfold Oper.wp
 simp [execOp,hop,resolve,invoke,builtin,hd,hx,hr,Result.andThen]
 exact hK
theorem wpList_clear_runI {P:Program} (w:World) {ops:Array Oper} {rest:List Oper} {o:Oper} {a:Act} {Q:Exit→Act→World→Prop} (hgd:o.guard=none) (d:Operand) (t:TypeId)
  (ho:o.op=.call { callee:=.builtin .clear,args:=#[d],argTypes:=#[t] }) (v:Value) (hd:a.eval d=v) {v':Value} {w':World}
  (hr:(Builtin.clear_ #[t] o.type #[v]).run P w=.ok v' w') (h:wpList P ops Q rest (a.put o.dst v') w'):wpList P ops Q (o::rest) a w :=
 wpList_plain hgd fun _ hK=>by
  unfold Oper.wp execOp
  simp only [ho,resolve,invoke,builtin,Sem.run_bind,Sem.run_pure,Result.andThen_ok,List.map_toArray,List.map_cons,List.map_nil,hd,hr]
  exact hK _ _ h
theorem run_clear_n {P:Program} (w:World) (t e ty:TypeId) (z:Value) (ht:P.underlying t=some (.slice e)) (hv:∀ w,(zeroValue e).run P w=.ok z w) (b o n c:Nat) (hn:0<n)
  (hc:∀ j,j<(Builtin.zeroCells z.cells n).toList.length→(w.cell? ⟨b,o+j,none⟩).isSome=true) (hf:∀ j,w.frozen? ⟨b,o+j,none⟩=false) (h1:∀ v∈(Builtin.zeroCells z.cells n).toList,v.oneCell'=true) :
  (Builtin.clear_ #[t] ty #[.slice (some ⟨b,o,none⟩) n c]).run P w=.ok (.tuple #[]) (w.setCells b o (Builtin.zeroCells z.cells n).toList):=by
 have hst:=run_storeCells_cells (P:=P) b o (Builtin.zeroCells z.cells n).toList 0 w (by simpa using hc) (fun j _=>by simp [hf]) h1
 simp only [Nat.add_zero] at hst
 obtain ⟨m,rfl⟩:∃ m,n=m+1:=⟨n - 1,by omega⟩
 simp [Builtin.clear_,run_underlying ht,hv] at hst ⊢
 rw [hst]
 rfl
abbrev zb7:List Value:=(Builtin.zeroCells zbx.cells 1).toList
theorem zb7_len:zb7.length=7:=by
 have:=zbx_size 1
 simpa [zb7] using this
theorem zb7_one:∀ v∈zb7,v.oneCell'=true:=by
 intro v hv
 have e:zb7=[.int .i64 0,.string ⟨#[]⟩,.int .i64 0,.int .i64 0,.int .i64 0,.slice none 0 0,.slice none 0 0]:=by
  show (Builtin.zeroCells zbx.cells 1).toList=_
  rw [zbx_cells]
  kernel_rfl
 rw [e] at hv
 simp only [List.mem_cons,List.not_mem_nil,or_false] at hv
 rcases hv with rfl | rfl | rfl | rfl | rfl | rfl | rfl <;> rfl
set_option maxHeartbeats 4000000 in
set_option maxRecDepth 100000 in
theorem delBx (b n c i:Nat) (cs:List Value) (w:World) (hi:i<n) (hnc:n≤c) (hc63:c≤9223372036854775807) (hcl:cs.length=n*7)
  (hcs:∀ j v,cs[j]?=some v→w.cell? ⟨b,j,none⟩=some v) (hfz:∀ j,w.frozen? ⟨b,j,none⟩=false) (h1c:∀ v∈cs,v.oneCell'=true) :
  Calls Tryz.prog 55 #[.slice (some ⟨b,0,none⟩) n c,.int .i64 i,.int .i64 ((i:Int)+1)] w fun e w' =>
   e=.returned (.slice (some ⟨b,0,none⟩) (n - 1) c)∧w'=(w.drew.setCells b (i*7) (cs.drop ((i+1)*7))).setCells b ((n - 1)*7) zb7:=by
 obtain ⟨i0,hi0,hz0,hzs,hzb⟩:=info_parts3 info_bx
 have hne:¬ ((i:Int)=(i:Int)+1):=by omega
 have hw1:IntKind.i64.wrap ((i:Int)+1)=(i:Int)+1:=by rw [IntKind.wrap_i64];omega
 have hb1:(0:Int)≤(i:Int)+1:=by omega
 have hin:(i:Int)≤(n:Int):=by omega
 have hin2:(i:Int)+1≤(n:Int):=by omega
 have htn:((i:Int)+1).toNat=i+1:=by omega
 have hdl:(cs.drop ((i+1)*7)).length=(n - (i+1))*7:=by rw [List.length_drop,hcl,Nat.sub_mul]
 have hsp:∀ j,j<n*7→(w.cell? ⟨b,j,none⟩).isSome=true:=fun j hj=>by rw [hcs j _ (List.getElem?_eq_getElem (by omega))];rfl
 have hlen:i+(n - (i+1))=n - 1:=by omega
 have hap:∀ ty o sc,(n - (i+1)=0∨o=(i+1)*7)→(Builtin.append_ #[24,24] ty #[.slice (some ⟨b,0,none⟩) i c,.slice (some ⟨b,o,none⟩) (n - (i+1)) sc]).run Tryz.prog w.drew=.ok (.slice (some ⟨b,0,none⟩) (n - 1) c) (w.drew.setCells b (i*7) (cs.drop ((i+1)*7))):=fun ty o sc ho=>by
  have hsrc:Src Tryz.prog i0.size 24 (.slice (some ⟨b,o,none⟩) (n - (i+1)) sc) (n - (i+1)) (cs.drop ((i+1)*7)) w.drew:=by
   rw [hzs]
   refine Src.ofSlice w.drew Tryz.underlying24 ⟨b,o,none⟩ (n - (i+1)) sc _ hdl (fun j u hj=>?_) (fun v hv=>h1c v (List.mem_of_mem_drop hv))
   have hj':=(List.getElem?_eq_some_iff.1 hj).1
   rw [hdl] at hj'
   rcases ho with h0 | rfl
   ·rw [h0] at hj';omega
   ·rw [Addr.add_lit]
    exact hcs ((i+1)*7+j) u (by rwa [List.getElem?_drop] at hj)
  have h:=run_append_room_src (P:=Tryz.prog) (w:=w.drew) 24 24 ty 37 i0 Tryz.underlying24 hi0 b 0 i c _ (n - (i+1)) _ hsrc (by omega) (fun j hj=>by
    rw [hzs,Nat.zero_add]
    rw [hdl] at hj
    exact hsp _ (by omega)) (fun j _=>hfz _)
  rw [hlen,hzs,Nat.zero_add] at h
  exact h
 obtain ⟨W1,hW1⟩:∃ W1,W1=w.drew.setCells b (i*7) (cs.drop ((i+1)*7)):=⟨_,rfl⟩
 have hsp1:∀ k,k<n*7→(W1.cell? ⟨b,k,none⟩).isSome=true:=fun k hk=>by
  rw [hW1]
  exact isSome_setCells b (cs.drop ((i+1)*7)) (i*7) w.drew (fun j hj=>hsp (i*7+j) (by rw [hdl] at hj;omega)) k (hsp k hk)
 have hcr:∀ ty cc,(Builtin.clear_ #[24] ty #[.slice (some ⟨b,(n - 1)*7,none⟩) 1 cc]).run Tryz.prog W1=.ok (.tuple #[]) (W1.setCells b ((n - 1)*7) zb7):=fun ty cc =>
  run_clear_n W1 24 37 ty zbx Tryz.underlying24 Tryz.zeroValue37 b ((n - 1)*7) 1 cc (by omega) (fun j hj=>hsp1 _ (by have h7:j<zb7.length:=hj;rw [zb7_len] at h7;omega)) (fun j=>by rw [hW1,World.frozen?_setCells];exact hfz _) zb7_one
 rw [← hW1] at hap ⊢
 have hn1:¬ (c=n - 1):=by omega
 have hn2:¬ (c=i):=by omega
 go_enter Tryz.func55,Tryz.ntmps55
 have hic:i≤c:=by omega
 have hic2:(i:Int)≤(c:Int):=by omega
 have hic3:i+1≤n:=by omega
 have hic4:i≤n:=by omega
 have hn3:((n - 1:Nat):Int)≤(n:Int):=by omega
 have hn4:n - (n - 1)=1:=by omega
 by_cases hce:c=i+1
 ·have hceT:(c=i+1)=True:=by simp [hce]
  have hl0:n - (i+1)=0:=by omega
  have hni:n - i=1:=by omega
  have hnn:n - 1=i:=by omega
  have hd0:cs.drop ((i+1)*7)=[]:=List.drop_of_length_le (by rw [hcl];omega)
  have hw0:W1=w.drew:=by rw [hW1,hd0];rfl
  subst hw0
  rw [hnn] at hcr ⊢
  clear hce hap hW1 hd0
  go_wp2_with fail
  go_region
  go_wp2_with (refine wpList_clear_runI _ rfl _ 24 rfl _ rfl (hcr _ _) ?_)
  go_ret
  exact ⟨rfl,rfl⟩
 ·have hap2:=fun ty sc=>hap ty ((i+1)*7) sc (.inr rfl)
  clear hap hW1
  go_wp2_with fail
  go_region_law (refine step_append_runI rfl _ _ 24 24 rfl (.slice (some ⟨b,0,none⟩) i c) (.slice (some ⟨b,(i+1)*7,none⟩) (n - (i+1)) (c - (i+1))) (by simp [Act.eval,Act.put]) (by simp [Act.eval,Act.put]) (hap2 _ _) ?_)
  go_wp2_with (refine wpList_clear_runI _ rfl _ 24 rfl _ rfl (hcr _ _) ?_)
  go_ret
  exact ⟨rfl,rfl⟩
def delY (i:Nat) (Y:List Y9):List Y9:=Y.take i++Y.drop (i+1)
theorem delY_len {i:Nat} {Y:List Y9} (h:i<Y.length):(delY i Y).length=Y.length - 1:=by
 unfold delY
 simp only [List.length_append,List.length_take,List.length_drop]
 omega
theorem delY_sub (i:Nat) (Y:List Y9):(delY i Y).Sublist Y:=by
 unfold delY
 have h:(Y.take i++Y.drop (i+1)).Sublist (Y.take i++Y.drop i):=by
  refine List.Sublist.append (List.Sublist.refl _) ?_
  rw [← List.drop_drop]
  exact List.drop_sublist _ _
 rwa [List.take_append_drop] at h
theorem yc_del {i:Nat} {Y:List Y9} (h:i<Y.length):yc (delY i Y)=(yc Y).take (i*7)++(yc Y).drop ((i+1)*7):=by
 unfold delY
 rw [yc_app,yc_take Y i (by omega),yc_drop Y (i+1) (by omega)]
theorem LsP.sub {W:World} {B:Nat} {v v':Value} {Y Y':List Y9} (h:LsP W B v Y) (hs:Y'.Sublist Y) (hv:v'.ownBlock=v.ownBlock):LsP W B v' Y' :=
 ⟨fun y hy=>h.each y (hs.subset hy),fun y hy j hj=>h.off y (hs.subset hy) j (by rw [← hv];exact hj),h.apart.sublist hs⟩
set_option maxHeartbeats 1600000 in
set_option maxRecDepth 100000 in
theorem deleteBx_any (B g c i:Nat) (Y:List Y9) (w:World) (hown:OwS w B (.slice (some ⟨g,0,none⟩) Y.length c) Y) (hi:i<Y.length) :
  Calls Tryz.prog 55 #[.slice (some ⟨g,0,none⟩) Y.length c,.int .i64 i,.int .i64 ((i:Int)+1)] w fun e w' =>
   e=.returned (.slice (some ⟨g,0,none⟩) (Y.length - 1) c)∧OwS w' B (.slice (some ⟨g,0,none⟩) (Y.length - 1) c) (delY i Y)∧w.grownBy w' (some g):=by
 rcases hown.row.2 with ⟨_,h2⟩ | ⟨g',c',cur,hv0,hBg,hbl,hnc,hcm,hcs,_⟩
 ·omega
 simp only [Value.slice.injEq,Option.some.injEq,Addr.mk.injEq,and_true,true_and] at hv0
 obtain ⟨rfl,rfl⟩:=hv0
 have hold:∀ j,j<Y.length*7→w.cell? ⟨g,j,none⟩=(yc Y)[j]?:=fun j hj=>hown.row.cellAt j hj
 have holds:∀ j u,(yc Y)[j]?=some u→w.cell? ⟨g,j,none⟩=some u:=fun j u hj=>by
  have hj':=(List.getElem?_eq_some_iff.1 hj).1
  rw [yc_len] at hj'
  rw [hold j hj',hj]
 have hsome:∀ j,j<c*7→(w.cell? ⟨g,j,none⟩).isSome=true:=fun j hj=>by rw [cell_of_row w g j cur 37 (0,0) hbl,Array.getElem?_eq_getElem (by omega)];rfl
 have hcl:(yc Y).length=Y.length*7:=yc_len Y
 have hdl:((yc Y).drop ((i+1)*7)).length=(Y.length - (i+1))*7:=by rw [List.length_drop,hcl,Nat.sub_mul]
 refine (delBx g Y.length c i (yc Y) w hi hnc (by unfold maxLen at hcm;omega) hcl holds (fun j=>frozen_of_row w g j cur 37 hbl) hown.ones).mono ?_
 rintro e w' ⟨rfl,rfl⟩
 obtain ⟨c1,hb1,hs1⟩:=heap_setCells g 37 ((yc Y).drop ((i+1)*7)) (i*7) w.drew cur hbl
 obtain ⟨c2,hb2,hs2⟩:=heap_setCells g 37 zb7 ((Y.length - 1)*7) _ c1 hb1
 have hrow:=own_cellsN (B:=B) (s:=7) (N:=Y.length - 1) (R:=yc (delY i Y)) hb2 hBg (by omega) hcm (by omega) (by rw [yc_len,delY_len hi]) (fun j hj=>by
   rw [World.cell?_setCells_out g _ _ _ _ (fun _ _=>by simp;omega),yc_del hi]
   by_cases h1:j<i*7
   · rw [World.cell?_setCells_out g _ _ _ _ (fun _ _=>by simp;omega),List.getElem?_append_left (by rw [List.length_take];omega),List.getElem?_take_of_lt h1]
     exact hold j (by omega)
   · have:=World.cell?_setCells_in g ((yc Y).drop ((i+1)*7)) (i*7) w.drew (fun t ht=>hsome _ (by rw [hdl] at ht;omega)) (j - i*7) (by rw [hdl];omega)
     rw [show i*7+(j - i*7)=j by omega] at this
     rw [this,List.getElem?_append_right (by rw [List.length_take];omega),List.length_take,hcl,Nat.min_eq_left (by omega),List.getElem?_eq_getElem])
 have hg:w.grownBy ((w.drew.setCells g (i*7) ((yc Y).drop ((i+1)*7))).setCells g ((Y.length - 1)*7) zb7) (some g):=grown_cells (grown_cells (grown_below (bdr (bre _)) _) _ _) _ _
 obtain ⟨WF,hWF⟩:∃ WF,(w.drew.setCells g (i*7) ((yc Y).drop ((i+1)*7))).setCells g ((Y.length - 1)*7) zb7=WF:=⟨_,rfl⟩
 rw [hWF] at hrow hg ⊢
 clear hWF hb1 hb2
 have hls:LsP w B (.slice (some ⟨g,0,none⟩) Y.length c) Y:=⟨hown.each,hown.off,hown.apart⟩
 have hl2:LsP WF B (.slice (some ⟨g,0,none⟩) (Y.length - 1) c) (delY i Y):=(hls.grown hg).sub (delY_sub i Y) rfl
 exact ⟨rfl,⟨by rw [delY_len hi];exact hrow,hl2.each,hl2.off,hl2.apart⟩,hg⟩
theorem byGid_any (x:X7) (mv gv:Value) (z:Int) (w:World) :
  Calls Tryz.prog 97 #[.agg #[.int .i64 x.1,.string x.2.1,.int .i64 x.2.2.1,.int .i64 x.2.2.2.1,.int .i64 x.2.2.2.2.1,mv,gv],.int .i64 z] w fun e w'=>e=.returned (.int .i64 (cpr x.1 z))∧Below w.heap.size w w':=by
 obtain ⟨g,nm,t,b,nx,L,G⟩:=x
 dsimp only
 have A0:=(Bx.new w 37 g nm t b nx mv gv).cells
 go_enter Tryz.func97,Tryz.ntmps97
 go_wp2_with fail
 refine (compare_any g z _).mono ?_;rintro e w1 ⟨rfl,h1⟩
 subst h1
 go_wp2
 go_ret
 exact ⟨rfl,bpush (bre _) _⟩
theorem count_at {S:List X7} {x:Int} {i:Nat} (hi:i≤S.length) (h1:∀ k (h:k<S.length),k<i→S[k].1<x) (h2:∀ k (h:k<S.length),i≤k→x≤S[k].1):S.countP (fun b=>decide (b.1<x))=i:=by
 have e:S=S.take i++S.drop i:=(List.take_append_drop i S).symm
 rw [e,List.countP_append]
 have e1:(S.take i).countP (fun b=>decide (b.1<x))=(S.take i).length:=by
  rw [List.countP_eq_length]
  intro a ha
  obtain ⟨k,hk,rfl⟩:=List.mem_iff_getElem.1 ha
  rw [List.length_take] at hk
  simpa using h1 k (by omega) (by omega)
 have e2:(S.drop i).countP (fun b=>decide (b.1<x))=0:=by
  rw [List.countP_eq_zero]
  intro a ha
  obtain ⟨k,hk,rfl⟩:=List.mem_iff_getElem.1 ha
  rw [List.length_drop] at hk
  simpa using h2 (i+k) (by omega) (by omega)
 rw [e1,e2,List.length_take]
 omega
set_option maxHeartbeats 1600000 in
set_option maxRecDepth 100000 in
theorem searchBx_any (lo hi:Nat) (ba:Option Addr) (bn bc:Nat) (S:List X7) (x:Int) (w:World) (hl:S.length=bn) (hn:bn≤1048576) (hm:Bs lo hi w ba S) (hp:S.Pairwise (fun a b=>a.1<b.1)) :
  Calls Tryz.prog 96 #[.slice ba bn bc,.int .i64 x,.func (.func 97) #[] #[]] w fun e w'=>∃ p,e=.returned (.tuple #[.int .i64 ((S.countP (fun b=>decide (b.1<x)):Nat):Int),.bool p])∧Below w.heap.size w w':=by
 have HR:=hid hm
 have HL:=hid hl
 have HN:=hid hn
 have HPW:=hid (List.pairwise_iff_getElem.1 hp)
 clear hm hl hp
 go_enter Tryz.func96,Tryz.ntmps96
 go_wp2
 go_loopw [9,10] (fun iv jv wr=>∃ (i j:Nat),i≤j∧j≤bn∧iv=.int .i64 (i:Int)∧jv=.int .i64 (j:Int)∧Hid (∀ k (h:k<S.length),k<i→S[k].1<x)∧Hid (∀ k (h:k<S.length),j≤k→x≤S[k].1)∧Below w.heap.size w wr) (fun iv jv _=>(intOf jv).toNat - (intOf iv).toNat)
 case atStart=>exact ⟨0,bn,Nat.zero_le _,Nat.le_refl _,rfl,rfl,fun k h hk=>absurd hk (Nat.not_lt_zero _),fun k h hk=>by rw [HL.out] at h;omega,bre _⟩
 case round =>
  obtain ⟨i,j,hij,hjn,rfl,rfl,H1,H2,hb⟩:=hrel
  have HB:=hid hb
  have hbn:=HN.out
  clear hb
  by_cases hlt:i<j
  ·obtain ⟨m,hmd⟩:∃ m,(i+j) / 2=m:=⟨_,rfl⟩
   have him:i≤m∧m<j:=by omega
   have hml:m<S.length:=by rw [HL.out];omega
   obtain ⟨k,o,ma,mc,ga,gc,rfl,hk,d,_⟩:=(HR.out.later HB.out).at hml
   obtain ⟨q,hq⟩:∃ q,S[m]=q:=⟨_,rfl⟩
   rw [hq] at d
   have HP:=hid hq
   have HC:=hid (byGid_any q)
   obtain ⟨g1,nm1,t1,b1,nx1,L1,G1⟩:=q
   dsimp only at d HC
   obtain ⟨m1,hm1⟩:∃ m1,L1.length=m1:=⟨_,rfl⟩
   obtain ⟨n1,hn1⟩:∃ n1,G1.length=n1:=⟨_,rfl⟩
   rw [hm1,hn1] at d
   unfold C7 at d
   have hI:(0:Int)≤(m:Int)∧(m:Int)<(bn:Int):=by omega
   have HMD:=hid hmd
   clear hq hm1 hn1
   go_wp2_with fail
   refine (HC.out _ _ x _).mono ?_;rintro e w1 ⟨rfl,hb1⟩
   have HB1:=hid (btr HB.out hb1)
   have hc:=cpr_less g1 x
   obtain ⟨r,hr⟩:∃ r,cpr g1 x=r:=⟨_,rfl⟩
   rw [hr] at hc ⊢
   clear hb1 d hr HC
   by_cases hgx:g1<x
   ·have hr0:r<0:=by simpa [hgx] using hc
    have H3:Hid (∀ k (h:k<S.length),k<m+1→S[k].1<x):=fun k h hk=>by
     by_cases e:k=m
     ·subst e;rw [HP.out];exact hgx
     ·have h1:=HPW.out k m h hml (by omega)
      rw [HP.out] at h1
      exact Int.lt_trans h1 hgx
    clear hc hgx
    go_wp2
    go_roundw
    case rel=>exact ⟨m+1,j,by omega,hjn,by first | rfl | exact congrArg (Value.int .i64) (by have:=HMD.out;omega),rfl,H3,H2,HB1.out⟩
    case measure=>simp [intOf];have:=HMD.out;omega
   ·have hr0:¬ r<0:=by simpa [hgx] using hc
    have H3:Hid (∀ k (h:k<S.length),m≤k→x≤S[k].1):=fun k h hk=>by
     by_cases e:k=m
     ·subst e;rw [HP.out];show x≤g1;omega
     ·have h1:=HPW.out m k hml h (by omega)
      rw [HP.out] at h1
      have h2:g1<S[k].1:=h1
      omega
    clear hc hgx
    go_wp2
    go_roundw
    case rel=>exact ⟨i,m,by omega,by omega,rfl,by first | rfl | exact congrArg (Value.int .i64) (by have:=HMD.out;omega),H1,H3,HB1.out⟩
    case measure=>simp [intOf];have:=HMD.out;omega
  ·have hij2:i=j:=by omega
   have HE:Hid (S.countP (fun b=>decide (b.1<x))=i):=count_at (by rw [HL.out];omega) H1.out (by rw [hij2];exact H2.out)
   clear hij2
   by_cases hib:i<bn
   ·have hml:i<S.length:=by rw [HL.out];omega
    obtain ⟨k,o,ma,mc,ga,gc,rfl,hk,d,_⟩:=(HR.out.later HB.out).at hml
    obtain ⟨q,hq⟩:∃ q,S[i]=q:=⟨_,rfl⟩
    rw [hq] at d
    have HC:=hid (byGid_any q)
    obtain ⟨g1,nm1,t1,b1,nx1,L1,G1⟩:=q
    dsimp only at d HC
    obtain ⟨m1,hm1⟩:∃ m1,L1.length=m1:=⟨_,rfl⟩
    obtain ⟨n1,hn1⟩:∃ n1,G1.length=n1:=⟨_,rfl⟩
    rw [hm1,hn1] at d
    unfold C7 at d
    have hI:(0:Int)≤(i:Int)∧(i:Int)<(bn:Int):=by omega
    clear hq hm1 hn1
    go_wp2_with fail
    refine (HC.out _ _ x _).mono ?_;rintro e w1 ⟨rfl,hb1⟩
    have HB1:=hid (btr HB.out hb1)
    obtain ⟨r,hr⟩:∃ r,cpr g1 x=r:=⟨_,rfl⟩
    rw [hr]
    clear hb1 d hr HC
    go_wp2
    refine bodyPost_ret (v:=.tuple #[.int .i64 (i:Int),.bool (r == 0)]) (by simp [results,Tryz.results96,go_sem]) rfl ⟨_,by rw [HE.out],HB1.out⟩
   ·go_wp2
    refine bodyPost_ret (v:=.tuple #[.int .i64 (i:Int),.bool false]) (by simp [results,Tryz.results96,go_sem]) rfl ⟨_,by rw [HE.out],HB.out⟩
def insX (x:X7) (S:List X7):List X7:=S.take (S.countP (fun b=>decide (b.1<x.1)))++x::S.drop (S.countP (fun b=>decide (b.1<x.1)))
theorem owx_nils (W:World):OwX W W.heap.size W.heap.size (.slice none 0 0) (.slice none 0 0) [] []:=by
 refine ⟨⟨[],rfl,⟨⟨rfl,.inl ⟨rfl,rfl⟩⟩,(fun z hz=>by cases hz),(fun z hz=>by cases hz),List.Pairwise.nil⟩,⟨rfl,.inl ⟨rfl,rfl⟩⟩,Dj.nil _,(fun z hz=>by cases hz),(fun j hj=>by simp [Value.ownBlock] at hj),(fun j hj=>by simp [Value.ownBlock] at hj),(fun z hz=>by cases hz)⟩,Nat.le_refl _⟩
set_option maxHeartbeats 3200000 in
set_option maxRecDepth 100000 in
theorem putBox_any (k:Nat) (y tm:Int) (bv gv:Value) (S:List X7) (G:List Int) (g1:Int) (nm1:ByteArray) (t1 b1 nx1:Int) (w:World) (h:Sx w k 27 y tm bv gv) (ho:OwT w (k+1) bv gv S G) (hn:S.length≤1048575) (hpw:S.Pairwise (fun a b=>a.1<b.1)) :
  Calls Tryz.prog 42 #[.pointer (some ⟨k,0,none⟩),.agg #[.int .i64 g1,.string nm1,.int .i64 t1,.int .i64 b1,.int .i64 nx1,.slice none 0 0,.slice none 0 0]] w fun e w'=>e=.returned (.tuple #[])∧∃ bv',Sx w' k 27 y tm bv' gv∧OwT w' (k+1) bv' gv (insX (g1,nm1,t1,b1,nx1,[],[]) S) G∧Below k w w':=by
 obtain ⟨bn,hbn⟩:∃ bn,S.length=bn:=⟨_,rfl⟩
 obtain ⟨ba,bc,_,_,hv1,hv2⟩:=ho.shape
 rw [hbn] at hv1
 subst hv1
 have hrd:Bs (k+1) w.heap.size w ba S:=by rw [hv2] at ho;exact ho.reads.2.2.1
 obtain ⟨Y,hY1,hY2,hY3,hY4,hY5⟩:=ho.own
 obtain ⟨W0,hW0⟩:∃ W0,w.alloc (.cells #[.int .i64 g1,.string nm1,.int .i64 t1,.int .i64 b1,.int .i64 nx1,.slice none 0 0,.slice none 0 0] 37)=W0:=⟨_,rfl⟩
 have b0:Below w.heap.size w W0:=by subst hW0;exact bpush (bre _) _
 have x0:Bx W0 w.heap.size 37 g1 nm1 t1 b1 nx1 (.slice none 0 0) (.slice none 0 0):=by subst hW0;exact Bx.new _ _ _ _ _ _ _ _ _
 have HS0:Hid (∀ W,Below W0.heap.size W0 W→(W.cell? ⟨k,0,none⟩=some (.int .i64 y)∧W.cell? ⟨k,1,none⟩=some (.int .i64 tm)∧W.cell? ⟨k,2,none⟩=some (.slice ba bn bc)∧W.cell? ⟨k,3,none⟩=some gv)∧(W.cell? ⟨w.heap.size,0,none⟩=some (.int .i64 g1)∧W.cell? ⟨w.heap.size,1,none⟩=some (.string nm1)∧W.cell? ⟨w.heap.size,2,none⟩=some (.int .i64 t1)∧W.cell? ⟨w.heap.size,3,none⟩=some (.int .i64 b1)∧W.cell? ⟨w.heap.size,4,none⟩=some (.int .i64 nx1)∧W.cell? ⟨w.heap.size,5,none⟩=some (.slice none 0 0)∧W.cell? ⟨w.heap.size,6,none⟩=some (.slice none 0 0))):=fun W hb=>⟨(h.later (btr b0 hb)).cells,(x0.later hb).cells⟩
 obtain ⟨i,hi⟩:∃ i,S.countP (fun b=>decide (b.1<g1))=i:=⟨_,rfl⟩
 have hil:i≤S.length:=by rw [← hi];exact List.countP_le_length
 have hYl:Y.length=S.length:=by rw [← hY1,List.length_map]
 have HINS:Hid (∀ l h,(insY i ⟨g1,nm1,t1,b1,nx1,.slice none 0 0,.slice none 0 0,[],[],l,h⟩ Y).map yd=insX (g1,nm1,t1,b1,nx1,[],[]) S):=fun l h=>by
  have hi2:S.countP (fun b=>decide (b.1<((g1,nm1,t1,b1,nx1,[],[]):X7).1))=i:=hi
  unfold insY insX
  rw [hi2,List.map_append,List.map_cons,List.map_take,List.map_drop,hY1]
  rfl
 have HI:=hid hi
 have HL:=hid hbn
 have HN:Hid (bn≤1048576):=by show _≤_;omega
 have HPW:=hid hpw
 have HRD:=hid hrd
 have HKL:=hid h.lt
 have A0:=hid h
 have X0:=hid x0
 have B0:=hid b0
 have HY2:=hid hY2
 have HY3:=hid hY3
 have HDJ:=hid hY4
 have HOF:=hid hY5
 have HNY:Hid (Y.length≤1048575):=by show _≤_;omega
 have HIY:Hid (i≤Y.length):=by show _≤_;omega
 have c0:=x0.cells
 clear hv2 hbn hrd hY1 hY2 hY3 hY4 hY5 h ho hpw b0 x0 hi hYl hil hn
 go_enter Tryz.func42,Tryz.ntmps42
 go_wp2_with fail
 clear hW0 c0
 refine wp_region_noPanic ?_
 refine wp_region_held_drew (S:=(fun W=>(W.cell? ⟨k,0,none⟩=some (.int .i64 y)∧W.cell? ⟨k,1,none⟩=some (.int .i64 tm)∧W.cell? ⟨k,2,none⟩=some (.slice ba bn bc)∧W.cell? ⟨k,3,none⟩=some gv)∧(W.cell? ⟨w.heap.size,0,none⟩=some (.int .i64 g1)∧W.cell? ⟨w.heap.size,1,none⟩=some (.string nm1)∧W.cell? ⟨w.heap.size,2,none⟩=some (.int .i64 t1)∧W.cell? ⟨w.heap.size,3,none⟩=some (.int .i64 b1)∧W.cell? ⟨w.heap.size,4,none⟩=some (.int .i64 nx1)∧W.cell? ⟨w.heap.size,5,none⟩=some (.slice none 0 0)∧W.cell? ⟨w.heap.size,6,none⟩=some (.slice none 0 0)))) (by kernel_rfl) (HS0.out _ (bdr (bre _))) (fun hHeld=>?_)
 refine tk 0 ?_
 refine tk 1 ?_
 refine tk 2 ?_
 refine tk 3 ?_
 refine tk 4 ?_
 refine tk 5 ?_
 clear hHeld
 refine ry 6 (fun K hK=>?_)
 go_simp
 refine (searchBx_any _ _ ba bn bc S g1 _ HL.out HN.out (HRD.out.later bb) HPW.out).mono ?_;rintro e w1 ⟨p1,rfl,hb1⟩
 rw [HI.out]
 go_wp2_with fail
 refine hK.out _ _ (HS0.out _ bb) (fun hHeld=>?_)
 clear hK K
 try simp only [Act.put,tp2,tp3,tp4]
 refine tk 7 ?_
 refine tk 8 ?_
 refine tk 9 ?_
 refine tk 10 ?_
 refine tk 11 ?_
 refine wpAnyH_done (by kernel_rfl) ?_ _
 refine NoPanic.normal ?_
 clear hHeld
 have hb01:Below W0.heap.size W0 w1:=by repeat (first | exact bre _ | refine bdr ?_ | refine btr ?_ (by assumption) | refine bpush ?_ _)
 have A1:=hid (A0.out.later (btr B0.out hb01))
 have X1:=hid (X0.out.later hb01)
 have HS1:Hid (∀ W,Below w1.heap.size w1 W→(W.cell? ⟨k,0,none⟩=some (.int .i64 y)∧W.cell? ⟨k,1,none⟩=some (.int .i64 tm)∧W.cell? ⟨k,2,none⟩=some (.slice ba bn bc)∧W.cell? ⟨k,3,none⟩=some gv)∧(W.cell? ⟨w.heap.size,0,none⟩=some (.int .i64 g1)∧W.cell? ⟨w.heap.size,1,none⟩=some (.string nm1)∧W.cell? ⟨w.heap.size,2,none⟩=some (.int .i64 t1)∧W.cell? ⟨w.heap.size,3,none⟩=some (.int .i64 b1)∧W.cell? ⟨w.heap.size,4,none⟩=some (.int .i64 nx1)∧W.cell? ⟨w.heap.size,5,none⟩=some (.slice none 0 0)∧W.cell? ⟨w.heap.size,6,none⟩=some (.slice none 0 0))):=fun W hb=>HS0.out W (btr hb01 hb)
 have HKB:Hid (k+1≤w1.heap.size):=by show _≤_;have h1:=HKL.out;have h2:=B0.out.size;have h3:=hb01.size;omega
 have HKW:Hid (k<w.heap.size∧w.heap.size<w1.heap.size):=⟨HKL.out,X1.out.lt⟩
 have HOS:Hid (OwS w1.drew (k+1) (.slice ba bn bc) Y):=HY2.out.later (btr B0.out (btr hb01 (bdr (bre _))))
 have HGI1:Hid (OwI w1 (k+1) gv G):=own_later HY3.out (btr B0.out hb01)
 have HOX:Hid (OwX w1.drew w1.heap.size w1.heap.size (.slice none 0 0) (.slice none 0 0) [] []):=owx_nils w1.drew
 have HOV:Hid (∀ j,Value.ownBlock (.slice ba bn bc)=some j→j<w1.heap.size∨w1.heap.size≤j):=fun j _=>by omega
 have HOD:Hid (∀ x∈Y,x.hi≤w1.heap.size∨w1.heap.size≤x.lo):=fun x hx=>.inl (HOS.out.each x hx).1.top
 have HBX:Hid (∀ w3,(w1.drew.alloc (.cells #[.int .i64 g1,.string nm1,.int .i64 t1,.int .i64 b1,.int .i64 nx1,.slice none 0 0,.slice none 0 0] 37)).grownBy w3 (Value.ownBlock (.slice ba bn bc))→Bx w3 w.heap.size 37 g1 nm1 t1 b1 nx1 (.slice none 0 0) (.slice none 0 0)):=fun w3 hg=>(X1.out.later (W':=w1.drew.alloc (.cells #[.int .i64 g1,.string nm1,.int .i64 t1,.int .i64 b1,.int .i64 nx1,.slice none 0 0,.slice none 0 0] 37)) (bpush (bdr (bre _)) _)).grown hg (fun e=>by
   have h1:=(HY2.out.row.lt w.heap.size e.symm).2
   omega)
 have HGV:Hid (∀ w3,(w1.drew.alloc (.cells #[.int .i64 g1,.string nm1,.int .i64 t1,.int .i64 b1,.int .i64 nx1,.slice none 0 0,.slice none 0 0] 37)).grownBy w3 (Value.ownBlock (.slice ba bn bc))→OwI w3 (k+1) gv G):=fun w3 hg=>World.ownsRow.kept (own_later (w':=w1.drew.alloc (.cells #[.int .i64 g1,.string nm1,.int .i64 t1,.int .i64 b1,.int .i64 nx1,.slice none 0 0,.slice none 0 0] 37)) HGI1.out (bpush (bdr (bre _)) _)) hg (by
   cases hv:Value.ownBlock gv with
   | none=>exact Or.inl rfl
   | some j=>exact Or.inr (fun e=>HDJ.out j hv e.symm))
 have HBW:Hid (Below k w w1.drew):=(btr B0.out (btr hb01 (bdr (bre _)))).mono (Nat.le_of_lt HKL.out)
 have d1:=(HS1.out w1.drew (bdr (bre _))).1
 have d2:=(HS1.out (w1.drew.alloc (.cells #[.int .i64 g1,.string nm1,.int .i64 t1,.int .i64 b1,.int .i64 nx1,.slice none 0 0,.slice none 0 0] 37)) (bpush (bdr (bre _)) _)).1
 have d3:=(HS1.out (w1.alloc (.cells #[.int .i64 g1,.string nm1,.int .i64 t1,.int .i64 b1,.int .i64 nx1,.slice none 0 0,.slice none 0 0] 37)).drew (bdr (bpush (bre _) _))).1
 clear hb01 hb1
 go_wp2_with fail
 refine wp_region_noPanic ?_
 refine wp_region_held_drew (S:=(fun W=>(W.cell? ⟨w.heap.size,0,none⟩=some (.int .i64 g1)∧W.cell? ⟨w.heap.size,1,none⟩=some (.string nm1)∧W.cell? ⟨w.heap.size,2,none⟩=some (.int .i64 t1)∧W.cell? ⟨w.heap.size,3,none⟩=some (.int .i64 b1)∧W.cell? ⟨w.heap.size,4,none⟩=some (.int .i64 nx1)∧W.cell? ⟨w.heap.size,5,none⟩=some (.slice none 0 0)∧W.cell? ⟨w.heap.size,6,none⟩=some (.slice none 0 0)))) (by kernel_rfl) ((HS1.out _ (bdr (bre _))).2) (fun hHeld=>?_)
 refine tk 0 ?_
 refine tk 1 ?_
 refine tk 2 ?_
 refine tk 3 ?_
 refine tk 5 ?_
 refine tk 6 ?_
 clear hHeld
 refine wpAnyH_ready (rs:=[4,7]) (by kernel_rfl) (by simp) ?_
 refine rc (fun K hK=>?x14) ?y14
 case' x14 =>
  go_simp
  refine hK.out _ _ ((HS1.out _ bb).2) (fun hHeld=>?_)
  clear hK K
  try simp only [Act.put,tp2,tp3,tp4]
  clear hHeld
  refine ry 7 (fun K hK=>?_)
  go_simp
  refine hK.out _ _ ((HS1.out _ bb).2) (fun hHeld=>?_)
  clear hK K
  try simp only [Act.put,tp2,tp3,tp4]
  clear hHeld
  refine ry 8 (fun K hK=>?_)
  go_simp
  refine (insertBx_any (k+1) (.slice ba bn bc) i ⟨g1,nm1,t1,b1,nx1,.slice none 0 0,.slice none 0 0,[],[],w1.heap.size,w1.heap.size⟩ Y w1.drew HOS.out HNY.out HIY.out HOX.out HKB.out HOV.out HOD.out HKB.out).mono ?_;rintro e w3 ⟨v3,rfl,hos3,hb3,hg3,hl3⟩
  have hk2:=HKW.out
  have a3:Sx w3 k 27 y tm (.slice ba bn bc) gv:=(hb3.block k (by omega)).trans (A1.out.later (bdr (bre _)))
  have x3:Bx w3 w.heap.size 37 g1 nm1 t1 b1 nx1 (.slice none 0 0) (.slice none 0 0):=HBX.out w3 hg3
  have c3:=a3.cells
  have f3:=a3.loose
  obtain ⟨a7,c7,hv7⟩:=hos3.shape
  have A3:=hid a3
  have X3:=hid x3
  have O3:=hid hos3
  have HB3:=hid hb3
  have HG3:=hid hg3
  have HL3:=hid hl3
  obtain ⟨n7,hn7⟩:∃ n7,(insY i ⟨g1,nm1,t1,b1,nx1,.slice none 0 0,.slice none 0 0,[],[],w1.heap.size,w1.heap.size⟩ Y).length=n7:=⟨_,rfl⟩
  rw [hn7] at hv7
  subst hv7
  have HS4:Hid (((w3.setCell ⟨k,2,none⟩ (.slice a7 n7 c7)).cell? ⟨w.heap.size,0,none⟩=some (.int .i64 g1)∧(w3.setCell ⟨k,2,none⟩ (.slice a7 n7 c7)).cell? ⟨w.heap.size,1,none⟩=some (.string nm1)∧(w3.setCell ⟨k,2,none⟩ (.slice a7 n7 c7)).cell? ⟨w.heap.size,2,none⟩=some (.int .i64 t1)∧(w3.setCell ⟨k,2,none⟩ (.slice a7 n7 c7)).cell? ⟨w.heap.size,3,none⟩=some (.int .i64 b1)∧(w3.setCell ⟨k,2,none⟩ (.slice a7 n7 c7)).cell? ⟨w.heap.size,4,none⟩=some (.int .i64 nx1)∧(w3.setCell ⟨k,2,none⟩ (.slice a7 n7 c7)).cell? ⟨w.heap.size,5,none⟩=some (.slice none 0 0)∧(w3.setCell ⟨k,2,none⟩ (.slice a7 n7 c7)).cell? ⟨w.heap.size,6,none⟩=some (.slice none 0 0))):=(X3.out.grown (wst (wre _ _) _ _) (fun e=>by simp only [Option.some.injEq] at e;omega)).cells
  clear a3 x3 hos3 hb3 hg3 hl3 hn7
  go_wp2_with fail
  refine hK.out _ _ (X3.out.cells) (fun hHeld=>?_)
  clear hK K
  try simp only [Act.put,tp2,tp3,tp4]
  refine tk 9 ?_
  refine tk 10 ?_
  clear hHeld
  refine ry 11 (fun K hK=>?_)
  go_simp
  refine hK.out _ _ (HS4.out) (fun hHeld=>?_)
  clear hK K
  try simp only [Act.put,tp2,tp3,tp4]
  refine wpAnyH_done (by kernel_rfl) ?_ _
  refine NoPanic.normal ?_
 case' y14 =>
  refine rl (fun K hK=>?_)
  go_simp
  refine hK.out _ _ ((HS1.out _ bb).2) (fun hHeld=>?_)
  clear hK K
  try simp only [Act.put,tp2,tp3,tp4]
  clear hHeld
  refine ry 4 (fun K hK=>?_)
  go_simp
  refine hK.out _ _ ((HS1.out _ bb).2) (fun hHeld=>?_)
  clear hK K
  try simp only [Act.put,tp2,tp3,tp4]
  clear hHeld
  refine ry 8 (fun K hK=>?_)
  go_simp
  refine (insertBx_any (k+1) (.slice ba bn bc) i ⟨g1,nm1,t1,b1,nx1,.slice none 0 0,.slice none 0 0,[],[],w1.heap.size,w1.heap.size⟩ Y w1.drew HOS.out HNY.out HIY.out HOX.out HKB.out HOV.out HOD.out HKB.out).mono ?_;rintro e w3 ⟨v3,rfl,hos3,hb3,hg3,hl3⟩
  have hk2:=HKW.out
  have a3:Sx w3 k 27 y tm (.slice ba bn bc) gv:=(hb3.block k (by omega)).trans (A1.out.later (bdr (bre _)))
  have x3:Bx w3 w.heap.size 37 g1 nm1 t1 b1 nx1 (.slice none 0 0) (.slice none 0 0):=HBX.out w3 hg3
  have c3:=a3.cells
  have f3:=a3.loose
  obtain ⟨a7,c7,hv7⟩:=hos3.shape
  have A3:=hid a3
  have X3:=hid x3
  have O3:=hid hos3
  have HB3:=hid hb3
  have HG3:=hid hg3
  have HL3:=hid hl3
  obtain ⟨n7,hn7⟩:∃ n7,(insY i ⟨g1,nm1,t1,b1,nx1,.slice none 0 0,.slice none 0 0,[],[],w1.heap.size,w1.heap.size⟩ Y).length=n7:=⟨_,rfl⟩
  rw [hn7] at hv7
  subst hv7
  have HS4:Hid (((w3.setCell ⟨k,2,none⟩ (.slice a7 n7 c7)).cell? ⟨w.heap.size,0,none⟩=some (.int .i64 g1)∧(w3.setCell ⟨k,2,none⟩ (.slice a7 n7 c7)).cell? ⟨w.heap.size,1,none⟩=some (.string nm1)∧(w3.setCell ⟨k,2,none⟩ (.slice a7 n7 c7)).cell? ⟨w.heap.size,2,none⟩=some (.int .i64 t1)∧(w3.setCell ⟨k,2,none⟩ (.slice a7 n7 c7)).cell? ⟨w.heap.size,3,none⟩=some (.int .i64 b1)∧(w3.setCell ⟨k,2,none⟩ (.slice a7 n7 c7)).cell? ⟨w.heap.size,4,none⟩=some (.int .i64 nx1)∧(w3.setCell ⟨k,2,none⟩ (.slice a7 n7 c7)).cell? ⟨w.heap.size,5,none⟩=some (.slice none 0 0)∧(w3.setCell ⟨k,2,none⟩ (.slice a7 n7 c7)).cell? ⟨w.heap.size,6,none⟩=some (.slice none 0 0))):=(X3.out.grown (wst (wre _ _) _ _) (fun e=>by simp only [Option.some.injEq] at e;omega)).cells
  clear a3 x3 hos3 hb3 hg3 hl3 hn7
  go_wp2_with fail
  refine hK.out _ _ (X3.out.cells) (fun hHeld=>?_)
  clear hK K
  try simp only [Act.put,tp2,tp3,tp4]
  refine tk 9 ?_
  refine tk 10 ?_
  clear hHeld
  refine ry 11 (fun K hK=>?_)
  go_simp
  refine hK.out _ _ (HS4.out) (fun hHeld=>?_)
  clear hK K
  try simp only [Act.put,tp2,tp3,tp4]
  refine wpAnyH_done (by kernel_rfl) ?_ _
  refine NoPanic.normal ?_
 all_goals
  clear hHeld
  go_wp2
  go_end0
  refine ⟨rfl,_,A3.out.s2 _,?_,?_⟩
  ·refine ⟨insY i ⟨g1,nm1,t1,b1,nx1,.slice none 0 0,.slice none 0 0,[],[],w1.heap.size,w1.heap.size⟩ Y,?_,?_,?_,?_,?_⟩
   ·exact HINS.out _ _
   ·exact O3.out.grown (wst (wre _ _) _ _) (by omega)
   ·exact OwI.grown (HGV.out w3 HG3.out) (wst (wre _ _) _ _) (by omega)
   ·intro j hj hj2
    rcases HL3.out j hj2 with h | h
    ·exact HDJ.out j hj h
    ·have h1:=(HGI1.out.lt j hj).2
     have h3:w1.drew.heap.size<j:=h
     have h2:w1.drew.heap.size=w1.heap.size:=rfl
     omega
   ·intro z hz j hj
    have hz2:=(insY_perm i ⟨g1,nm1,t1,b1,nx1,.slice none 0 0,.slice none 0 0,[],[],w1.heap.size,w1.heap.size⟩ Y).mem_iff.1 hz
    rcases List.mem_append.1 hz2 with hz3 | hz3
    ·exact HOF.out z hz3 j hj
    ·simp only [List.mem_cons,List.not_mem_nil,or_false] at hz3
     subst hz3
     have h1:=(HGI1.out.lt j hj).2
     exact .inl h1
  ·have hg9:w3.grownBy (w3.setCell ⟨k,2,none⟩ (.slice a7 n7 c7)) (some k):=wst (wre _ _) _ _
   have h2:w1.drew.heap.size=w1.heap.size:=rfl
   have h3:=HB3.out.size
   exact HBW.out.trans ((HB3.out.mono (by omega)).trans (below_of_grown hg9 (Nat.le_refl _) (by omega)))
end Go.Proofs.YtkbecgcbheopnaaGreat
