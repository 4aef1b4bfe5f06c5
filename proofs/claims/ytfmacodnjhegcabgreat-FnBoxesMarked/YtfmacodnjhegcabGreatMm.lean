/- Bany, Bdraw, Btwo, in one text. -/
import Derived.Test.YtfmacodnjhegcabGreatMl
namespace Go.Proofs.YtfmacodnjhegcabGreat
open Go.RowKit Go.ChangeMaps

theorem Is.wide {lo hi lo' hi' : Nat} {W : World} {a : Option Addr} {G : List Int} (h : Is lo hi W a G) (h1 : lo' ≤ lo) (h2 : hi ≤ hi') (h3 : hi' ≤ W.heap.size) : Is lo' hi' W a G := by
  refine ⟨h3, fun i hi' => ?_⟩
  obtain ⟨k, o, e1, e2, e3, e4⟩ := h.2 i hi'
  exact ⟨k, o, e1, by omega, by omega, e4⟩
/-- A box's data as they read: in blocks from lo on, below hi. -/
structure Bg (W : World) (lo hi : Nat) (nm : ByteArray) (ma : Option Addr) (mn mc : Nat) (ga : Option Addr) (gn gc : Nat) (L : List M4) (G : List Int) : Prop where
  nmz : nm.size ≤ 20
  len : L.length = mn
  most : mn ≤ 20
  sm : Sm L
  mails : Ms lo hi W ma L
  m0 : ma = none → mc = 0
  glen : G.length = gn
  gmost : gn ≤ 50
  gone : Is lo hi W ga G
  g0 : ga = none → gc = 0
section
variable {W W' : World} {lo hi : Nat} {nm : ByteArray} {ma : Option Addr} {mn mc : Nat} {ga : Option Addr} {gn gc : Nat} {L : List M4} {G : List Int}
theorem Bg.same (h : Bg W lo hi nm ma mn mc ga gn gc L G) (hs : hi ≤ W'.heap.size) (hk : ∀ k, lo ≤ k → k < hi → W'.heap[k]? = W.heap[k]?) : Bg W' lo hi nm ma mn mc ga gn gc L G :=
  ⟨h.nmz, h.len, h.most, h.sm, h.mails.same hs hk, h.m0, h.glen, h.gmost, h.gone.same hs hk, h.g0⟩
theorem Bg.later (h : Bg W lo hi nm ma mn mc ga gn gc L G) (hb : Below W.heap.size W W') : Bg W' lo hi nm ma mn mc ga gn gc L G :=
  h.same (Nat.le_trans h.mails.1 hb.size) (fun k _ hk => hb.block k (Nat.lt_of_lt_of_le hk h.mails.1))
theorem Bg.far {k : Nat} (h : Bg W lo hi nm ma mn mc ga gn gc L G) (hg : W.grownBy W' (some k)) (hk : k < lo ∨ hi ≤ k) : Bg W' lo hi nm ma mn mc ga gn gc L G :=
  h.same (Nat.le_trans h.mails.1 hg.size) (fun j h1 h2 => hg.block j (Nat.lt_of_lt_of_le h2 h.mails.1) (fun e => by simp only [Option.some.injEq] at e; omega))
theorem Bg.wide {lo' hi' : Nat} (h : Bg W lo hi nm ma mn mc ga gn gc L G) (h1 : lo' ≤ lo) (h2 : hi ≤ hi') (h3 : hi' ≤ W.heap.size) : Bg W lo' hi' nm ma mn mc ga gn gc L G :=
  ⟨h.nmz, h.len, h.most, h.sm, h.mails.wide h1 h2 h3, h.m0, h.glen, h.gmost, h.gone.wide h1 h2 h3, h.g0⟩
theorem Bg.name {nm' : ByteArray} (h : Bg W lo hi nm ma mn mc ga gn gc L G) (hn : nm'.size ≤ 20) : Bg W lo hi nm' ma mn mc ga gn gc L G :=
  ⟨hn, h.len, h.most, h.sm, h.mails, h.m0, h.glen, h.gmost, h.gone, h.g0⟩
end
theorem gr_new {w W W' : World} {cb : Nat} {r : Option Nat} (h : w.grownBy W (some cb)) (hg : W.grownBy W' r) (hr : ∀ j, r = some j → w.heap.size ≤ j) : w.grownBy W' (some cb) :=
  ⟨hg.os.trans h.os, hg.tape.trans h.tape, hg.output.trans h.output, Nat.le_trans h.size hg.size, fun i hi hne => (hg.block i (Nat.lt_of_lt_of_le hi h.size) (fun e => by have := hr i e.symm; omega)).trans (h.block i hi hne)⟩
theorem Cur.grownr {W W' : World} {cb n cap : Nat} {ao : Option Addr} {r : Option Nat} (h : Cur W cb ao n cap) (hg : W.grownBy W' r) (hr : some cb ≠ r) : Cur W' cb ao n cap := by
  obtain ⟨i, x, h1, h2⟩ := h
  exact ⟨i, x, h1, (hg.block cb (Array.getElem?_eq_some_iff.1 h2).1 hr).trans h2⟩

/-- Behind the copy: the answer's block, the box, its data, the cursor. -/
structure As (w W : World) (cb : Nat) (ao : Option Addr) (n cap kb hi : Nat) (g : Int) (nm : ByteArray) (t b nx : Int) (ma : Option Addr) (mn mc : Nat) (ga : Option Addr) (gn gc : Nat) (L : List M4) (G : List Int) : Prop where
  res : Bx W w.heap.size 29 0 ⟨#[]⟩ 0 0 0 (.slice none 0 0) (.slice none 0 0)
  box : Bx W kb 29 g nm t b nx (.slice ma mn mc) (.slice ga gn gc)
  bg : Bg W (w.heap.size + 1) hi nm ma mn mc ga gn gc L G
  cur : Cur W cb ao n cap
  gr : w.grownBy W (some cb)
  lo : w.heap.size < kb
  hi : cb < w.heap.size
section
variable {w W W' : World} {cb : Nat} {ao : Option Addr} {n cap kb hi : Nat} {g : Int} {nm : ByteArray} {t b nx : Int} {ma : Option Addr} {mn mc : Nat} {ga : Option Addr} {gn gc : Nat} {L : List M4} {G : List Int}
theorem As.drew (h : As w W cb ao n cap kb hi g nm t b nx ma mn mc ga gn gc L G) : As w W.drew cb ao n cap kb hi g nm t b nx ma mn mc ga gn gc L G := ⟨h.res, h.box, h.bg.later (bdr (bre _)), h.cur, gdr h.gr, h.lo, h.hi⟩
theorem As.later (h : As w W cb ao n cap kb hi g nm t b nx ma mn mc ga gn gc L G) (hb : Below W.heap.size W W') : As w W' cb ao n cap kb hi g nm t b nx ma mn mc ga gn gc L G :=
  ⟨h.res.later hb, h.box.later hb, h.bg.later hb, h.cur.later hb h.cur.lt, only_add h.gr (hb.mono h.gr.size), h.lo, h.hi⟩
theorem As.draw (h : As w W cb ao n cap kb hi g nm t b nx ma mn mc ga gn gc L G) (hg : W.grownBy W' (some cb)) (hc : Cur W' cb ao n cap) : As w W' cb ao n cap kb hi g nm t b nx ma mn mc ga gn gc L G := by
  have h1 := h.lo
  have h2 := h.hi
  exact ⟨h.res.far hg (by omega), h.box.far hg (by omega), h.bg.far hg (.inl (by omega)), hc, only_trans h.gr hg, h.lo, h.hi⟩
theorem As.turn {g' : Int} {nm' : ByteArray} {t' b' nx' : Int} (h : As w W cb ao n cap kb hi g nm t b nx ma mn mc ga gn gc L G) (hk : hi ≤ kb) (hg : W.grownBy W' (some kb)) (hx : Bx W' kb 29 g' nm' t' b' nx' (.slice ma mn mc) (.slice ga gn gc)) (hn : nm'.size ≤ 20) : As w W' cb ao n cap kb hi g' nm' t' b' nx' ma mn mc ga gn gc L G := by
  have h1 := h.lo
  have h2 := h.hi
  exact ⟨h.res.far hg (by omega), hx, (h.bg.far hg (.inr hk)).name hn, h.cur.grownr hg (fun e => by simp only [Option.some.injEq] at e; omega), gr_new h.gr hg (fun j e => by simp only [Option.some.injEq] at e; omega), h.lo, h.hi⟩
end
/-- How a call ends that draws a box, right or not. -/
def Any6 (cb : Nat) (ao : Option Addr) (n cap : Nat) (w : World) (e : Ending) (w' : World) : Prop :=
  ∃ (g : Int) (nm : ByteArray) (t b nx : Int) (ma : Option Addr) (mn mc : Nat) (ga : Option Addr) (gn gc : Nat) (L : List M4) (G : List Int) (hi : Nat), e = .returned (.agg #[.int .i64 g, .string nm, .int .i64 t, .int .i64 b, .int .i64 nx, .slice ma mn mc, .slice ga gn gc]) ∧ Bg w' (w.heap.size + 1) hi nm ma mn mc ga gn gc L G ∧ Cur w' cb ao n cap ∧ w.grownBy w' (some cb)
theorem any6_end {w W : World} {cb : Nat} {ao : Option Addr} {n cap kb hi : Nat} {g : Int} {nm : ByteArray} {t b nx : Int} {ma : Option Addr} {mn mc : Nat} {ga : Option Addr} {gn gc : Nat} {L : List M4} {G : List Int} {a : Act} (h : As w W cb ao n cap kb hi g nm t b nx ma mn mc ga gn gc L G)
    (hres : ∀ W', W' = (((((((W.setCell ⟨w.heap.size, 0, none⟩ (.int .i64 g)).setCell ⟨w.heap.size, 1, none⟩ (.string nm)).setCell ⟨w.heap.size, 2, none⟩ (.int .i64 t)).setCell ⟨w.heap.size, 3, none⟩ (.int .i64 b)).setCell ⟨w.heap.size, 4, none⟩ (.int .i64 nx)).setCell ⟨w.heap.size, 5, none⟩ (.slice ma mn mc)).setCell ⟨w.heap.size, 6, none⟩ (.slice ga gn gc)) → (W'.cell? ⟨w.heap.size, 0, none⟩ = some (.int .i64 g) ∧ W'.cell? ⟨w.heap.size, 1, none⟩ = some (.string nm) ∧ W'.cell? ⟨w.heap.size, 2, none⟩ = some (.int .i64 t) ∧ W'.cell? ⟨w.heap.size, 3, none⟩ = some (.int .i64 b) ∧ W'.cell? ⟨w.heap.size, 4, none⟩ = some (.int .i64 nx) ∧ W'.cell? ⟨w.heap.size, 5, none⟩ = some (.slice ma mn mc) ∧ W'.cell? ⟨w.heap.size, 6, none⟩ = some (.slice ga gn gc)) → (results Tryz.f50 a.tmps).run Tryz.prog W' = .ok (.agg #[.int .i64 g, .string nm, .int .i64 t, .int .i64 b, .int .i64 nx, .slice ma mn mc, .slice ga gn gc]) W') (hdef : a.defers = [] := by rfl) :
    bodyPost Tryz.prog Tryz.f50 (fun e w' => Any6 cb ao n cap w e w') Exit.ret a (((((((W.setCell ⟨w.heap.size, 0, none⟩ (.int .i64 g)).setCell ⟨w.heap.size, 1, none⟩ (.string nm)).setCell ⟨w.heap.size, 2, none⟩ (.int .i64 t)).setCell ⟨w.heap.size, 3, none⟩ (.int .i64 b)).setCell ⟨w.heap.size, 4, none⟩ (.int .i64 nx)).setCell ⟨w.heap.size, 5, none⟩ (.slice ma mn mc)).setCell ⟨w.heap.size, 6, none⟩ (.slice ga gn gc)) := by
  have h1 := h.lo
  have h2 := h.hi
  have e2 := set7_grown W w.heap.size g nm t b nx (.slice ma mn mc) (.slice ga gn gc)
  have d1 := (h.res.set7 g nm t b nx (.slice ma mn mc) (.slice ga gn gc)).cells
  unfold set7 at d1 e2
  exact bodyPost_ret (hres _ rfl d1) hdef ⟨g, nm, t, b, nx, ma, mn, mc, ga, gn, gc, L, G, hi, rfl, h.bg.far e2 (.inl (Nat.lt_succ_self _)), h.cur.grownr e2 (fun e => by simp only [Option.some.injEq] at e; omega), gr_new h.gr e2 (fun j e => by simp only [Option.some.injEq] at e; omega)⟩

/-- A row of mails with flags of whatever make, as it reads. -/
theorem ms_row {W : World} {B lo : Nat} {v : Value} {Z : List Z5} (row : W.ownsRow B 39 4 v Z.length (zc Z)) (hlo : lo ≤ B) (hf : ∀ z ∈ Z, ∃ a c, z.2.2.1 = .slice a z.2.2.2.1.length c ∧ Rb lo W.heap.size W a z.2.2.2.1 ∧ (a = none → c = 0)) :
    ∃ a c, v = .slice a Z.length c ∧ (a = none → c = 0) ∧ Ms lo W.heap.size W a (Z.map md) := by
  rcases row.2 with ⟨h1, h2⟩ | ⟨g, cap, cur, h1, h2, h3, h4, h5, h6, h7⟩
  · refine ⟨none, 0, by rw [h1, h2], fun _ => rfl, Nat.le_refl _, fun i hi => ?_⟩
    rw [List.length_map] at hi
    omega
  · subst h1
    refine ⟨_, _, rfl, fun e => by simp at e, Nat.le_refl _, fun i hi => ?_⟩
    rw [List.length_map] at hi
    have e := zc_at Z i hi
    obtain ⟨fa, fc, hf', hr, h0⟩ := hf Z[i] (List.getElem_mem hi)
    rw [hf'] at e
    refine ⟨g, 0, fa, fc, rfl, by omega, (Array.getElem?_eq_some_iff.1 h3).1, ?_, ?_, h0⟩
    · simp only [Nat.zero_add, List.getElem_map]
      exact ⟨(row.cellAt _ (by omega)).trans e.1, (row.cellAt _ (by omega)).trans e.2.1, (row.cellAt _ (by omega)).trans e.2.2.1, (row.cellAt _ (by omega)).trans e.2.2.2⟩
    · simpa [md] using hr
theorem Dl.rb {W : World} {B n c : Nat} {a : Option Addr} {l : List R3} (h : Dl W B (.slice a n c) l) : n = l.length ∧ l.length ≤ 4 ∧ Rb B W.heap.size W a l ∧ (a = none → c = 0) := by
  obtain ⟨a', c', h1, h2, h3, h4, h5, h6⟩ := h
  simp only [Value.slice.injEq] at h1
  obtain ⟨rfl, rfl, rfl⟩ := h1
  refine ⟨rfl, h2, fun hn => ?_, h4⟩
  obtain ⟨k, o, e1, e2, e3⟩ := h5 hn
  subst e1
  exact ⟨k, o, rfl, h6 _ rfl, e2, e3⟩
/-- One mail appended to a row, as one step of a region that draws its order: the row alone. -/
theorem step_append_mg {ops : Array Oper} {o : Oper} {a : Act} {w : World} {K : Act → World → Prop} {Q : Exit → Act → World → Prop} {E : Prop}
    (hg : o.guard = none) (s x : Operand) (hop : o.op = Op.call { callee := Callee.builtin Builtin.append, args := #[s, x], argTypes := #[26, 26] })
    (B : Nat) (v : Value) (Z : List Z5) (hs : a.eval s = v) (z : Z5) (hown : w.ownsRow B 39 4 v Z.length (zc Z)) (hz : ∃ a k c, z.2.2.1 = .slice a k c)
    (hx : a.eval x = .slice (some ⟨w.heap.size, 0, none⟩) 1 1) (hlen : Z.length ≤ 1048576) (hB : B ≤ w.heap.size)
    (hK : ∀ v' w', w'.ownsRow B 39 4 v' (Z ++ [z]).length (zc (Z ++ [z])) → (w.alloc (.cells #[.int .i64 z.1, .int .i64 z.2.1, z.2.2.1, .string z.2.2.2.2] 39)).grownBy w' v.ownBlock → (∀ j, v'.ownBlock = some j → v.ownBlock = some j ∨ w.heap.size < j) → K (a.put o.dst v') w') :
    if Region.wanted o (yielded ops a.tmps) = true then Oper.wp Tryz.prog o a (w.alloc (.cells #[.int .i64 z.1, .int .i64 z.2.1, z.2.2.1, .string z.2.2.2.2] 39)) K Q else E := by
  have hw : Region.wanted o (yielded ops a.tmps) = true := by simp [Region.wanted, hg]
  rw [if_pos hw]
  obtain ⟨i0, hi, hz0, hz1, hz2⟩ := info_parts3 info_ml
  obtain ⟨v', w', hr, h2, h3, h4, h5⟩ := run_append_own_at (P := Tryz.prog) (w.alloc (.cells #[.int .i64 z.1, .int .i64 z.2.1, z.2.2.1, .string z.2.2.2.2] 39)) B 26 o.type 39 i0 _ 4 56 Tryz.underlying26 hi hz0 hz1 hz2 rfl (by decide) v _ _ (hown.alloc _) ⟨w.heap.size, 0, none⟩ 1 1 (zc [z]) rfl (cells_new4 w z 39) (zc_one (fun y hy => by simp at hy; subst hy; exact hz)) (by unfold maxLen; omega) (by omega) (by simp; omega)
  unfold Oper.wp execOp
  simp only [hop, resolve, invoke, builtin, Sem.run_bind, Sem.run_pure, Result.andThen_ok, List.map_toArray, List.map_cons, List.map_nil, hs, hx, hr]
  exact hK v' w' (by rw [zc_app]; simpa using h2) h3 (fun j hj => by
    rcases h5 with h5 | h5
    · exact .inl (by rw [← h5]; exact hj)
    · rw [h5] at hj; simp at hj; exact .inr (by omega))
theorem wpList_append_ig (w : World) {ops : Array Oper} {rest : List Oper} {o : Oper} {a : Act} {Q : Exit → Act → World → Prop} (hgd : o.guard = none) (s x : Operand)
    (ho : o.op = .call { callee := .builtin .append, args := #[s, x], argTypes := #[27, 27] })
    (base : Nat) (v : Value) (bs : List Int) (hs : a.eval s = v) (hown : OwI w base v bs) (n : Int)
    (hx : a.eval x = .slice (some ⟨w.heap.size, 0, none⟩) 1 1) (hlen : bs.length ≤ 1048576) (hbase : base ≤ w.heap.size)
    (h : ∀ v' w', OwI w' base v' (bs ++ [n]) → (w.alloc (.cells #[.int .i64 n] 3)).grownBy w' v.ownBlock → (∀ j, v'.ownBlock = some j → v.ownBlock = some j ∨ w.heap.size < j) → wpList Tryz.prog ops Q rest (a.put o.dst v') w') :
    wpList Tryz.prog ops Q (o :: rest) a (w.alloc (.cells #[.int .i64 n] 3)) := by
  obtain ⟨i0, hi, hz0, hz1, hz2⟩ := info_parts3 info_int
  refine wpList_append_own_at _ hgd s x 27 ho base 3 i0 (.int .i64 0) 1 8 Tryz.underlying27 hi hz0 hz1 hz2 rfl (by decide) v _ _ hs (hown.alloc _) ⟨w.heap.size, 0, none⟩ 1 1 [.int .i64 n] hx rfl (cell_one_int _ _ _) (by intro u hu; simp at hu; subst hu; rfl) (by unfold maxLen; omega) (by omega) (by simp; omega) ?_
  intro v' w' hown' hg _ h5
  exact h v' w' (by simpa [OwI] using hown') hg (fun j hj => by
    rcases h5 with h5 | h5
    · exact .inl (by rw [← h5]; exact hj)
    · rw [h5] at hj; simp at hj; exact .inr (by omega))

theorem own_at {W W' : World} {B e size n : Nat} {x : Value} {xs : List Value} (ho : W.ownsRow B e size x n xs) (hk : ∀ j, x.ownBlock = some j → W'.heap[j]? = W.heap[j]?) : W'.ownsRow B e size x n xs := by
  refine ⟨ho.1, ho.2.imp id ?_⟩
  rintro ⟨g, cap, cur, h1, h2, h3, h4⟩
  exact ⟨g, cap, cur, h1, h2, (hk g (by rw [h1]; rfl)).trans h3, h4⟩
/-- A box whose row of mails has one more, of whatever make. -/
theorem As.more {w w4 W W' : World} {cb : Nat} {ao : Option Addr} {n cap kb hi B lo : Nat} {g : Int} {nm : ByteArray} {t b nx : Int} {ma : Option Addr} {mn mc : Nat} {ga : Option Addr} {gn gc : Nat} {L : List M4} {G : List Int} {a7 : Option Addr} {n7 c7 : Nat} {z : Z5} {Z : List Z5} (h : As w W cb ao n cap kb hi g nm t b nx ma mn mc ga gn gc L G) (h4 : w4.heap.size = kb) (hw4 : w4.grownBy W (some cb)) (hZ : Z.map md = L) (hz4 : OwZ w4 B (.slice ma mn mc) Z) (hi4 : OwI w4 B (.slice ga gn gc) G) (hdj : Dj (.slice ga gn gc) (.slice ma mn mc)) (hB : w.heap.size < B)
    (hz : Dl W lo z.2.2.1 z.2.2.2.1) (hlo : kb < lo) (hzt : z.2.2.2.2.size ≤ 100) (hm : mn ≤ 10) (row : W'.ownsRow B 39 4 (.slice a7 n7 c7) (Z ++ [z]).length (zc (Z ++ [z]))) (hg : (W.alloc (.cells #[.int .i64 z.1, .int .i64 z.2.1, z.2.2.1, .string z.2.2.2.2] 39)).grownBy W' (Value.slice ma mn mc).ownBlock) (hl : ∀ j, (Value.slice a7 n7 c7).ownBlock = some j → (Value.slice ma mn mc).ownBlock = some j ∨ W.heap.size < j) :
    As w (W'.setCell ⟨kb, 5, none⟩ (.slice a7 n7 c7)) cb ao n cap kb (W'.setCell ⟨kb, 5, none⟩ (.slice a7 n7 c7)).heap.size g nm t b nx a7 n7 c7 ga gn gc (L ++ [md z]) G := by
  have h1 := h.lo
  have h2 := h.hi
  have h3 := h.box.lt
  have hown := hz4.grown hw4 (by omega)
  have hoi := OwI.grown hi4 hw4 (by omega)
  have hlt : ∀ j, (Value.slice ma mn mc).ownBlock = some j → j < kb := fun j hj => by have := (hz4.row.lt j hj).2; omega
  have hlg : ∀ j, (Value.slice ga gn gc).ownBlock = some j → j < kb := fun j hj => by have := (hi4.lt j hj).2; omega
  have hblk : ∀ j, j < W.heap.size → (Value.slice ma mn mc).ownBlock ≠ some j → W'.heap[j]? = W.heap[j]? := fun j hj hne => (hg.block j (by simp; omega) (fun e => hne e.symm)).trans (Below.heap_alloc W _ j hj)
  have hblk2 : ∀ j, j < W.heap.size → (Value.slice ma mn mc).ownBlock ≠ some j → j ≠ kb → (W'.setCell ⟨kb, 5, none⟩ (.slice a7 n7 c7)).heap[j]? = W.heap[j]? := fun j hj hne hjk => (heap_setCell_other W' ⟨kb, 5, none⟩ j _ hjk).trans (hblk j hj hne)
  have hsz : (W'.setCell ⟨kb, 5, none⟩ (.slice a7 n7 c7)).heap.size = W'.heap.size := by simp [World.setCell]
  have hszW : W.heap.size < W'.heap.size := by have := hg.size; simp at this; omega
  have hobm : ∀ j, (Value.slice ma mn mc).ownBlock = some j → B ≤ j := fun j hj => (hown.row.lt j hj).1
  have hbox' : Bx W' kb 29 g nm t b nx (.slice ma mn mc) (.slice ga gn gc) := (hblk kb h3 (fun e => by have := hlt kb e; omega)).trans h.box
  have hset : W'.grownBy (W'.setCell ⟨kb, 5, none⟩ (.slice a7 n7 c7)) (some kb) := only_set
  have hrow := own_at (W' := W'.setCell ⟨kb, 5, none⟩ (.slice a7 n7 c7)) row (fun j hj => heap_setCell_other W' ⟨kb, 5, none⟩ j _ (fun e => by
    simp only at e
    rcases hl j hj with hj | hj
    · have := hlt j hj; omega
    · omega))
  have hgo : OwI (W'.setCell ⟨kb, 5, none⟩ (.slice a7 n7 c7)) B (.slice ga gn gc) G := own_at hoi (fun j hj => hblk2 j (hoi.lt j hj).2 (fun e => hdj j hj e) (fun e => by have := hlg j hj; omega))
  have hzl : ∃ a c, z.2.2.1 = .slice a z.2.2.2.1.length c ∧ Rb lo W.heap.size W a z.2.2.2.1 ∧ (a = none → c = 0) ∧ z.2.2.2.1.length ≤ 4 := by
    obtain ⟨a', c', e1, e2⟩ := hz
    have := Dl.rb (W := W) (B := lo) (a := a') (n := z.2.2.2.1.length) (c := c') (l := z.2.2.2.1) ⟨a', c', rfl, e2⟩
    exact ⟨a', c', e1, this.2.2.1, this.2.2.2, this.2.1⟩
  obtain ⟨za, zc', hzs, q3, q4, q5⟩ := hzl
  obtain ⟨a, c, e1, e2, e3⟩ := ms_row (lo := w.heap.size + 1) hrow (by omega) (fun y hy => by
    rcases List.mem_append.1 hy with hy | hy
    · have ho : Ow (W'.setCell ⟨kb, 5, none⟩ (.slice a7 n7 c7)) B y.2.2.1 y.2.2.2.1 := own_at (hown.each y hy) (fun j hj => hblk2 j ((hown.each y hy).lt j hj).2 (fun e => hown.off y hy j e hj) (fun e => by have := ((hz4.each y hy).lt j hj).2; omega))
      obtain ⟨a, c, e1, e2, e3⟩ := Ow.rb ho
      exact ⟨a, c, e1, e2.wide (by omega) (Nat.le_refl _), e3⟩
    · simp at hy
      subst hy
      refine ⟨_, _, hzs, ?_, q4⟩
      refine Rb.wide (lo := lo) (hi := W.heap.size) ?_ (by omega) (by omega)
      exact q3.same (fun k hk1 hk2 => hblk2 k hk2 (fun e => by have := hlt k e; omega) (by omega)))
  simp only [Value.slice.injEq] at e1
  obtain ⟨rfl, rfl, rfl⟩ := e1
  have hlen : Z.length = mn := by rw [← h.bg.len, ← hZ, List.length_map]
  have hlen2 : (Z ++ [z]).length = mn + 1 := by rw [List.length_append, hlen]; rfl
  have hmap : (Z ++ [z]).map md = L ++ [md z] := by rw [List.map_append, hZ]; rfl
  rw [hmap] at e3
  refine ⟨?_, hbox'.s5 _, ⟨h.bg.nmz, by rw [← hmap, List.length_map], by omega, ?_, e3, e2, h.bg.glen, h.bg.gmost, ((OwI.is hgo).2).wide (by omega) (Nat.le_refl _) (Nat.le_refl _), h.bg.g0⟩, ?_, ?_, h1, h2⟩
  · exact Bx.far ((hblk w.heap.size h.res.lt (fun e => by have := hobm _ e; omega)).trans h.res) hset (by omega)
  · intro m hmm
    rcases List.mem_append.1 hmm with hmm | hmm
    · exact h.bg.sm m hmm
    · simp at hmm
      subst hmm
      exact ⟨by show z.2.2.2.1.length ≤ _; omega, by show z.2.2.2.2.size ≤ _; omega⟩
  · obtain ⟨i, x, p1, p2⟩ := h.cur
    exact ⟨i, x, p1, (hblk2 cb h.cur.lt (fun e => by have := hobm _ e; omega) (by omega)).trans p2⟩
  · refine gr_new (gr_new (gal h.gr _) hg (fun j e => ?_)) hset (fun j e => by simp only [Option.some.injEq] at e; omega)
    have := hobm j e
    omega
/-- A box whose row of numbers has one more. -/
theorem As.moreG {w w4 W W' : World} {cb : Nat} {ao : Option Addr} {n cap kb hi B : Nat} {g : Int} {nm : ByteArray} {t b nx : Int} {ma : Option Addr} {mn mc : Nat} {ga : Option Addr} {gn gc : Nat} {L : List M4} {G : List Int} {a7 : Option Addr} {n7 c7 : Nat} {x : Int} {Z : List Z5} (h : As w W cb ao n cap kb hi g nm t b nx ma mn mc ga gn gc L G) (h4 : w4.heap.size = kb) (hw4 : w4.grownBy W (some cb)) (hZ : Z.map md = L) (hz4 : OwZ w4 B (.slice ma mn mc) Z) (hi4 : OwI w4 B (.slice ga gn gc) G) (hdj : Dj (.slice ga gn gc) (.slice ma mn mc)) (hdz : ∀ z ∈ Z, Dj (.slice ga gn gc) z.2.2.1) (hB : w.heap.size < B)
    (hm : gn ≤ 40) (row : OwI W' B (.slice a7 n7 c7) (G ++ [x])) (hg : (W.alloc (.cells #[.int .i64 x] 3)).grownBy W' (Value.slice ga gn gc).ownBlock) (hl : ∀ j, (Value.slice a7 n7 c7).ownBlock = some j → (Value.slice ga gn gc).ownBlock = some j ∨ W.heap.size < j) :
    As w (W'.setCell ⟨kb, 6, none⟩ (.slice a7 n7 c7)) cb ao n cap kb (W'.setCell ⟨kb, 6, none⟩ (.slice a7 n7 c7)).heap.size g nm t b nx ma mn mc a7 n7 c7 L (G ++ [x]) := by
  have h1 := h.lo
  have h2 := h.hi
  have h3 := h.box.lt
  have hown := hz4.grown hw4 (by omega)
  have hoi := OwI.grown hi4 hw4 (by omega)
  have hlt : ∀ j, (Value.slice ma mn mc).ownBlock = some j → j < kb := fun j hj => by have := (hz4.row.lt j hj).2; omega
  have hlg : ∀ j, (Value.slice ga gn gc).ownBlock = some j → j < kb := fun j hj => by have := (hi4.lt j hj).2; omega
  have hblk : ∀ j, j < W.heap.size → (Value.slice ga gn gc).ownBlock ≠ some j → W'.heap[j]? = W.heap[j]? := fun j hj hne => (hg.block j (by simp; omega) (fun e => hne e.symm)).trans (Below.heap_alloc W _ j hj)
  have hblk2 : ∀ j, j < W.heap.size → (Value.slice ga gn gc).ownBlock ≠ some j → j ≠ kb → (W'.setCell ⟨kb, 6, none⟩ (.slice a7 n7 c7)).heap[j]? = W.heap[j]? := fun j hj hne hjk => (heap_setCell_other W' ⟨kb, 6, none⟩ j _ hjk).trans (hblk j hj hne)
  have hsz : (W'.setCell ⟨kb, 6, none⟩ (.slice a7 n7 c7)).heap.size = W'.heap.size := by simp [World.setCell]
  have hszW : W.heap.size < W'.heap.size := by have := hg.size; simp at this; omega
  have hobm : ∀ j, (Value.slice ga gn gc).ownBlock = some j → B ≤ j := fun j hj => (hoi.lt j hj).1
  have hbox' : Bx W' kb 29 g nm t b nx (.slice ma mn mc) (.slice ga gn gc) := (hblk kb h3 (fun e => by have := hlg kb e; omega)).trans h.box
  have hset : W'.grownBy (W'.setCell ⟨kb, 6, none⟩ (.slice a7 n7 c7)) (some kb) := only_set
  have hgo : OwI (W'.setCell ⟨kb, 6, none⟩ (.slice a7 n7 c7)) B (.slice a7 n7 c7) (G ++ [x]) := own_at row (fun j hj => heap_setCell_other W' ⟨kb, 6, none⟩ j _ (fun e => by
    simp only at e
    rcases hl j hj with hj | hj
    · have := hlg j hj; omega
    · omega))
  have hzz : OwZ (W'.setCell ⟨kb, 6, none⟩ (.slice a7 n7 c7)) B (.slice ma mn mc) Z := hown.kept (by rw [hsz]; omega)
    (fun j hj => hblk2 j (hown.row.lt j hj).2 (fun e => hdj j e hj) (fun e => by have := hlt j hj; omega))
    (fun z hz j hj => hblk2 j ((hown.each z hz).lt j hj).2 (fun e => hdz z hz j e hj) (fun e => by have := ((hz4.each z hz).lt j hj).2; omega))
  have hn7 := (OwI.is hgo).1
  have hlg2 : (G ++ [x]).length = gn + 1 := by rw [List.length_append, h.bg.glen]; rfl
  refine ⟨?_, hbox'.s6 _, ⟨h.bg.nmz, h.bg.len, h.bg.most, h.bg.sm, by rw [← hZ]; exact hzz.ms.2.wide (by omega) (Nat.le_refl _) (Nat.le_refl _), h.bg.m0, hn7.symm, by omega, ((OwI.is hgo).2).wide (by omega) (Nat.le_refl _) (Nat.le_refl _), own_none hgo⟩, ?_, ?_, h1, h2⟩
  · exact Bx.far ((hblk w.heap.size h.res.lt (fun e => by have := hobm _ e; omega)).trans h.res) hset (by omega)
  · obtain ⟨i, y, p1, p2⟩ := h.cur
    exact ⟨i, y, p1, (hblk2 cb h.cur.lt (fun e => by have := hobm _ e; omega) (by omega)).trans p2⟩
  · refine gr_new (gr_new (gal h.gr _) hg (fun j e => ?_)) hset (fun j e => by simp only [Option.some.injEq] at e; omega)
    have := hobm j e
    omega
theorem row_slice {W : World} {B e size n : Nat} {v : Value} {xs : List Value} (h : W.ownsRow B e size v n xs) : ∃ a k c, v = .slice a k c := by
  rcases h.2 with ⟨h1, h2⟩ | ⟨g, cap, cur, h1, _⟩
  · exact ⟨none, 0, 0, h1⟩
  · exact ⟨_, _, _, h1⟩
theorem three_names (w : World) (r : Nat) (h : r < 3) : ∃ z : ByteArray, z.size ≤ 20 ∧ (w.alloc (.cells #[.string ⟨#[]⟩, .string ⟨#[65]⟩, .string ⟨#[116, 104, 105, 114, 116, 101, 101, 110, 115, 105, 103, 110, 115]⟩] 9)).cell? ⟨w.heap.size, r, none⟩ = some (.string z) := by
  have hh := heap_alloc_new w (.cells #[.string ⟨#[]⟩, .string ⟨#[65]⟩, .string ⟨#[116, 104, 105, 114, 116, 101, 101, 110, 115, 105, 103, 110, 115]⟩] 9)
  have h2 : r = 0 ∨ r = 1 ∨ r = 2 := by omega
  rcases h2 with rfl | rfl | rfl
  · exact ⟨_, by decide, cell_of_row _ _ 0 _ _ _ hh⟩
  · exact ⟨_, by decide, cell_of_row _ _ 1 _ _ _ hh⟩
  · exact ⟨_, by decide, cell_of_row _ _ 2 _ _ _ hh⟩

set_option maxHeartbeats 16000000 in
set_option maxRecDepth 100000 in
theorem l06Any_any (cb : Nat) (ao : Option Addr) (n cap : Nat) (w : World) (hn : n ≤ 1048576) (hcur : Cur w cb ao n cap) (hcode : Code w cb ao n) :
    Calls Tryz.prog 50 #[.pointer (some ⟨cb, 0, none⟩)] w fun e w' => Any6 cb ao n cap w e w' := by
  have hlt := hcur.lt
  have R0 := hid (Bx.new w 29 0 ⟨#[]⟩ 0 0 0 (.slice none 0 0) (.slice none 0 0))
  have C0 := hid (hcur.alloc (.cells #[.int .i64 0, .string ⟨#[]⟩, .int .i64 0, .int .i64 0, .int .i64 0, .slice none 0 0, .slice none 0 0] 29))
  have HO := hid hcode
  have G0 := hid (World.grownBy_alloc w (.cells #[.int .i64 0, .string ⟨#[]⟩, .int .i64 0, .int .i64 0, .int .i64 0, .slice none 0 0, .slice none 0 0] 29) (some cb))
  clear hcur hcode
  go_enter Tryz.func50, Tryz.ntmps50
  go_wp2_with fail
  refine (below4 cb ao n cap _ hn C0.out (HO.out.later G0.out) 14 (by decide) (by decide)).mono ?_; rintro e w1 ⟨k, hk, rfl, hc, hg⟩
  have C1 := hid hc
  have G1 := hid (only_trans G0.out hg)
  have R1 := hid (R0.out.far hg (by omega))
  clear hc hg R0 C0 G0
  go_wp2_with fail
  refine (below4 cb ao n cap _ hn C1.out (HO.out.later G1.out) 60 (by decide) (by decide)).mono ?_; rintro e w2 ⟨x, hx, rfl, hc, hg⟩
  have C2 := hid hc
  have G2 := hid (only_trans G1.out hg)
  have R2 := hid (R1.out.far hg (by omega))
  have HXX := hid hx
  clear hc hg R1 C1 G1
  go_wp2_with fail
  refine (l06Box_any cb ao n cap _ hn C2.out (HO.out.later G2.out)).mono ?_; rintro e w3 ⟨nm, t, b, nx, ma, mn, mc, ga, gn, gc, L, G, rfl, hd, ho, hc, hg⟩
  have C3 := hid hc
  have G3 := hid (only_trans G2.out hg)
  have R3 := hid (R2.out.far hg (by omega))
  obtain ⟨r1, r2, r3, r4⟩ := ho.reads
  obtain ⟨s1, s2, s3, s4⟩ := hd.sm
  have HR3 := hid r3
  have HR4 := hid r4
  have HG0 := hid ho.none.2
  have HSM := hid s3
  have HNZ := hid s4
  have HL := hid r1
  have HGL := hid r2
  have HMN : Hid (mn ≤ 10) := by show _ ≤ _; omega
  have HGN : Hid (gn ≤ 40) := by show _ ≤ _; omega
  clear hc hg R2 C2 G2 ho hd r1 r2 r3 r4 s1 s2 s3 s4 hx
  go_wp2_with fail
  refine (l06Copy_any _ _ _ _ 7 nm t b nx ma mn mc ga gn gc L G _ HL.out.symm (by have := HMN.out; omega) HSM.out HR3.out HGL.out.symm (by have := HGN.out; omega) HR4.out HG0.out).mono ?_; rintro e w4 ⟨mv, gv, rfl, ho4, hb4⟩
  obtain ⟨a, c, a', c', hv1, hv2⟩ := ho4.shape
  rw [← HL.out] at hv1
  rw [← HGL.out] at hv2
  subst hv1
  subst hv2
  obtain ⟨B, hB⟩ : ∃ B, w3.heap.size = B := ⟨_, rfl⟩
  rw [hB] at ho4
  have HBB : Hid (w.heap.size < B) := by rw [← hB]; exact R3.out.lt
  have HB4 : Hid (B ≤ w4.heap.size) := by rw [← hB]; exact hb4.size
  have HN0 := hid ho4.none
  have hrd := ho4.reads
  have HRD1 := hid hrd.2.2.1
  have HRD2 := hid hrd.2.2.2
  obtain ⟨Z, hZ, hz4, hi4, hdj, hdz⟩ := ho4
  have HZ := hid hZ
  have HZ4 := hid hz4
  have HI4 := hid hi4
  have HDJ := hid hdj
  have HDZ := hid hdz
  have HZL : Hid (Z.length = mn) := hz4.ms.1.symm
  obtain ⟨kb, hkb⟩ : ∃ kb, w4.heap.size = kb := ⟨_, rfl⟩
  have HK4 := hid hkb
  obtain ⟨W4, hW4⟩ : ∃ W4, w4.alloc (.cells #[.int .i64 7, .string nm, .int .i64 t, .int .i64 b, .int .i64 nx, .slice a mn c, .slice a' gn c'] 29) = W4 := ⟨_, rfl⟩
  have HW5 : Hid (w4.grownBy W4 (some cb)) := by rw [← hW4]; exact World.grownBy_alloc _ _ _
  have T4 : Hid (As w W4 cb ao n cap kb kb 7 nm t b nx a mn c a' gn c' L G) := by
    have h1 := HBB.out
    have h2 := HB4.out
    rw [hkb] at h2
    refine ⟨?_, ?_, ?_, ?_, ?_, by omega, hlt⟩
    · rw [← hW4]; exact (R3.out.later hb4).later (bpush (bre _) _)
    · rw [← hW4, ← hkb]; exact Bx.new _ _ _ _ _ _ _ _ _
    · rw [← hW4, ← hkb]
      refine Bg.later ⟨?_, HL.out.symm, ?_, HSM.out, HRD1.out.wide (by omega) (Nat.le_refl _) (Nat.le_refl _), HN0.out.1, HGL.out.symm, ?_, HRD2.out.wide (by omega) (Nat.le_refl _) (Nat.le_refl _), HN0.out.2⟩ (bpush (bre _) _)
      · have := HNZ.out; omega
      · have := HMN.out; omega
      · have := HGN.out; omega
    · rw [← hW4]; exact (C3.out.later hb4 C3.out.lt).alloc _
    · rw [← hW4]; exact gal (only_add G3.out (hb4.mono G3.out.size)) _
  clear hb4 hrd hZ hz4 hi4 hdj hdz R3 C3 G3 hB HR3 HR4 HG0
  have hne : ¬ kb = w.heap.size := by have := T4.out.lo; omega
  have hne' : ¬ w.heap.size = kb := by have := T4.out.lo; omega
  have q0 := T4.out.box.cells
  have f0 := T4.out.box.loose
  have q1 := T4.out.res.cells
  have f1 := T4.out.res.loose
  have k0 : k = 0 ∨ k = 1 ∨ k = 2 ∨ k = 3 ∨ k = 4 ∨ k = 5 ∨ 6 ≤ k := by omega
  clear hk
  rcases k0 with rfl | rfl | rfl | rfl | rfl | rfl | k6
  · go_wp2
    exact any6_end (T4.out.turn (Nat.le_refl _) only_set (T4.out.box.s0 _) T4.out.bg.nmz) (fun W' _ d => by simp [results, Tryz.results50, go_sem, d])
  · have h3 : (x : Int).tmod 3 = 0 ∨ (x : Int).tmod 3 = 1 ∨ (x : Int).tmod 3 = 2 := tmod3 x
    rcases h3 with h3 | h3 | h3
    · have T5 := hid (T4.out.later (bpush (bre _) (.cells #[.string ⟨#[]⟩, .string ⟨#[65]⟩, .string ⟨#[116, 104, 105, 114, 116, 101, 101, 110, 115, 105, 103, 110, 115]⟩] 9)))
      have T6 := hid (T5.out.turn (Nat.le_refl _) only_set (T5.out.box.s1 ⟨#[]⟩) (by decide))
      have cM := T5.out.box.cells
      have fM := T5.out.box.loose
      have rM := T5.out.res.cells
      have gM := T5.out.res.loose
      go_wp2
      exact any6_end T6.out (fun W' _ d => by simp [results, Tryz.results50, go_sem, d])
    · have T5 := hid (T4.out.later (bpush (bre _) (.cells #[.string ⟨#[]⟩, .string ⟨#[65]⟩, .string ⟨#[116, 104, 105, 114, 116, 101, 101, 110, 115, 105, 103, 110, 115]⟩] 9)))
      have T6 := hid (T5.out.turn (Nat.le_refl _) only_set (T5.out.box.s1 ⟨#[65]⟩) (by decide))
      have cM := T5.out.box.cells
      have fM := T5.out.box.loose
      have rM := T5.out.res.cells
      have gM := T5.out.res.loose
      go_wp2
      exact any6_end T6.out (fun W' _ d => by simp [results, Tryz.results50, go_sem, d])
    · have T5 := hid (T4.out.later (bpush (bre _) (.cells #[.string ⟨#[]⟩, .string ⟨#[65]⟩, .string ⟨#[116, 104, 105, 114, 116, 101, 101, 110, 115, 105, 103, 110, 115]⟩] 9)))
      have T6 := hid (T5.out.turn (Nat.le_refl _) only_set (T5.out.box.s1 ⟨#[116, 104, 105, 114, 116, 101, 101, 110, 115, 105, 103, 110, 115]⟩) (by decide))
      have cM := T5.out.box.cells
      have fM := T5.out.box.loose
      have rM := T5.out.res.cells
      have gM := T5.out.res.loose
      go_wp2
      exact any6_end T6.out (fun W' _ d => by simp [results, Tryz.results50, go_sem, d])
  · go_wp2
    exact any6_end (T4.out.turn (Nat.le_refl _) only_set (T4.out.box.s4 _) T4.out.bg.nmz) (fun W' _ d => by simp [results, Tryz.results50, go_sem, d])
  · clear q0 f0 q1 f1
    go_wp2_with fail
    try rw [hkb]
    try rw [hW4]
    clear hW4 hkb
    have T5 := hid T4.out.drew
    have HW5d : Hid (w4.grownBy W4.drew (some cb)) := gdr HW5.out
    have HLO : Hid (kb < W4.heap.size + 1) := by have := T4.out.box.lt; show _ < _; omega
    clear T4 HW5
    refine wp_region_noPanic ?_
    refine wp_region_held_drew (S := (fun _ => True)) (by kernel_rfl) (trivial) (fun hHeld => ?_)
    refine wpAnyH_take (i := 0) (oi := { dst := some 34, op := Op.fieldAddr 29 (Operand.tmp 5) 4, type := 0, pos := "l06_box.go:146", after := #[], guard := none }) (v := ?vb1_0) rfl (by kernel_rfl) (by kernel_rfl) (by kernel_rfl) (fun _ _ _ h => h) (Or.inl ⟨by rfl, ?hyb1_0⟩) (by assumption) ?restb1_0
    case hyb1_0 => (intro w hSw; (try dsimp only at hSw); go_simp; try with_reducible rfl)
    try simp only [Act.put, List.setIfInBounds_toArray, List.set_cons_zero, List.set_cons_succ]
    refine wpAnyH_take (i := 2) (oi := { dst := some 36, op := Op.move (Operand.tmp 0), type := 54, pos := "l06_box.go:146", after := #[], guard := none }) (v := ?vb2_2) rfl (by kernel_rfl) (by kernel_rfl) (by kernel_rfl) (fun _ _ _ h => h) (Or.inl ⟨by rfl, ?hyb2_2⟩) (by assumption) ?restb2_2
    case hyb2_2 => (intro w hSw; (try dsimp only at hSw); go_simp; try with_reducible rfl)
    try simp only [Act.put, List.setIfInBounds_toArray, List.set_cons_zero, List.set_cons_succ]
    clear hHeld
    refine wpAnyH_ready (rs := [1, 3]) (by kernel_rfl) (by simp) ?_
    refine AllReadyH.cons (o := { dst := some 35, op := Op.load 26 (Operand.tmp 34), type := 26, pos := "l06_box.go:146", after := #[{ on := 0, ground := Ground.data }], guard := none }) rfl (fun K hK => ?_) ?_
    · have z0 := T5.out.box.cells
      go_simp
      clear z0
      refine hK.out _ _ (trivial) (fun hHeld => ?_)
      clear hK K
      try simp only [Act.put, List.setIfInBounds_toArray, List.set_cons_zero, List.set_cons_succ]
      clear hHeld
      refine wpAnyH_ready (rs := [3]) (by kernel_rfl) (by simp) ?_
      refine AllReadyH.cons (o := { dst := some 37, op := Op.call { callee := Callee.value (Operand.func 81), args := #[Operand.tmp 36], argTypes := #[54] }, type := 39, pos := "l06_box.go:146", after := #[{ on := 2, ground := Ground.data }], guard := none }) rfl (fun K hK => ?_) AllReadyH.nil
      go_simp
      refine (l05Any_any cb ao n cap _ hn T5.out.cur (HO.out.later T5.out.gr)).mono ?_
      rintro e w6 ⟨g5, u5, f5, l5, t5, rfl, hd5, ht5, hc5, hg5⟩
      obtain ⟨a5, c5, rfl, p1, p2, p3, p4, p5⟩ := hd5
      have D6 : Hid (Dl w6 (W4.heap.size + 1) (.slice a5 l5.length c5) l5) := ⟨a5, c5, rfl, p1, p2, p3, p4, p5⟩
      have T6 := hid (T5.out.draw hg5 hc5)
      have HW6 := hid (only_trans HW5d.out hg5)
      have HT5 := hid ht5
      clear hc5 hg5 ht5 p1 p2 p3 p4 p5
      go_wp2_with fail
      refine hK.out _ _ (trivial) (fun hHeld => ?_)
      clear hK K
      try simp only [Act.put, List.setIfInBounds_toArray, List.set_cons_zero, List.set_cons_succ]
      clear hHeld
      refine wpAnyH_ready (rs := [4]) (by kernel_rfl) (by simp) ?_
      refine AllReadyH.cons (o := { dst := some 38, op := Op.buildSlice 26 1 #[(0, Operand.tmp 37)], type := 26, pos := "l06_box.go:146", after := #[{ on := 3, ground := Ground.data }], guard := none }) rfl (fun K hK => ?_) AllReadyH.nil
      go_simp
      refine hK.out _ _ (trivial) (fun hHeld => ?_)
      clear hK K
      try simp only [Act.put, List.setIfInBounds_toArray, List.set_cons_zero, List.set_cons_succ]
      clear hHeld
      refine wpAnyH_ready (rs := [5]) (by kernel_rfl) (by simp) ?_
      refine AllReadyH.cons (o := { dst := some 39, op := Op.call { callee := Callee.builtin Builtin.append, args := #[Operand.tmp 35, Operand.tmp 38], argTypes := #[26, 26] }, type := 26, pos := "l06_box.go:146", after := #[{ on := 1, ground := Ground.data }, { on := 4, ground := Ground.data }, { on := 3, ground := Ground.chain }], guard := none }) rfl (fun K hK => ?_) AllReadyH.nil
      refine step_append_mg rfl (.tmp 35) (.tmp 38) rfl B _ Z (by rfl) ((g5, u5, .slice a5 l5.length c5, l5, t5) : Z5) (HZ4.out.grown HW6.out (by have h1 := HBB.out; have h2 := T6.out.hi; omega)).row ⟨_, _, _, rfl⟩ (by rfl) (by have h1 := HZL.out; have h2 := HMN.out; omega) (by have h1 := HB4.out; have h2 := T6.out.box.lt; have h3 := HK4.out; omega) ?_
      intro v7 w7 hrow7 hg7 hl7
      obtain ⟨a7, n7, c7, rfl⟩ := row_slice hrow7
      have T8 := hid (As.more (z := ((g5, u5, .slice a5 l5.length c5, l5, t5) : Z5)) T6.out HK4.out HW6.out HZ.out HZ4.out HI4.out HDJ.out HBB.out D6.out HLO.out HT5.out HMN.out hrow7 hg7 hl7)
      have hb7 : Bx w7 kb 29 7 nm t b nx (.slice a mn c) (.slice a' gn c') := ((T6.out.later (bpush (bre _) (.cells #[.int .i64 g5, .int .i64 u5, .slice a5 l5.length c5, .string t5] 39))).box).grown hg7 (fun e => by have h1 := (HZ4.out.row.lt kb e.symm).2; have h2 := HK4.out; omega)
      have z7 := hb7.cells
      have y7 := hb7.loose
      clear hb7 hrow7 hg7 hl7
      refine hK.out _ _ (trivial) (fun hHeld => ?_)
      clear hK K
      try simp only [Act.put, List.setIfInBounds_toArray, List.set_cons_zero, List.set_cons_succ]
      refine wpAnyH_take (i := 6) (oi := { dst := some 40, op := Op.fieldAddr 29 (Operand.tmp 5) 4, type := 0, pos := "l06_box.go:146", after := #[{ on := 0, ground := Ground.phase }, { on := 1, ground := Ground.phase }, { on := 2, ground := Ground.phase }, { on := 3, ground := Ground.phase }, { on := 4, ground := Ground.phase }, { on := 5, ground := Ground.phase }], guard := none }) (v := ?vb3_6) rfl (by kernel_rfl) (by kernel_rfl) (by kernel_rfl) (fun _ _ _ h => h) (Or.inl ⟨by rfl, ?hyb3_6⟩) (by assumption) ?restb3_6
      case hyb3_6 => (intro w hSw; (try dsimp only at hSw); go_simp; try with_reducible rfl)
      try simp only [Act.put, List.setIfInBounds_toArray, List.set_cons_zero, List.set_cons_succ]
      clear hHeld
      refine wpAnyH_ready (rs := [7]) (by kernel_rfl) (by simp) ?_
      refine AllReadyH.cons (o := { dst := none, op := Op.store 26 (Operand.tmp 40) (Operand.tmp 39), type := 0, pos := "l06_box.go:146", after := #[{ on := 6, ground := Ground.data }, { on := 5, ground := Ground.data }, { on := 5, ground := Ground.chain }, { on := 0, ground := Ground.phase }, { on := 1, ground := Ground.phase }, { on := 2, ground := Ground.phase }, { on := 3, ground := Ground.phase }, { on := 4, ground := Ground.phase }, { on := 5, ground := Ground.phase }], guard := none }) rfl (fun K hK => ?_) AllReadyH.nil
      go_simp
      clear z7 y7
      refine hK.out _ _ (trivial) (fun hHeld => ?_)
      clear hK K
      try simp only [Act.put, List.setIfInBounds_toArray, List.set_cons_zero, List.set_cons_succ]
      refine wpAnyH_done (by kernel_rfl) ?_ _
      refine NoPanic.normal ?_
      have q0 := T8.out.box.cells
      have q1 := T8.out.res.cells
      have f1 := T8.out.res.loose
      go_wp2
      exact any6_end T8.out (fun W' _ d => by simp [results, Tryz.results50, go_sem, d])
    refine AllReadyH.cons (o := { dst := some 37, op := Op.call { callee := Callee.value (Operand.func 81), args := #[Operand.tmp 36], argTypes := #[54] }, type := 39, pos := "l06_box.go:146", after := #[{ on := 2, ground := Ground.data }], guard := none }) rfl (fun K hK => ?_) AllReadyH.nil
    go_simp
    refine (l05Any_any cb ao n cap _ hn T5.out.cur (HO.out.later T5.out.gr)).mono ?_
    rintro e w6 ⟨g5, u5, f5, l5, t5, rfl, hd5, ht5, hc5, hg5⟩
    obtain ⟨a5, c5, rfl, p1, p2, p3, p4, p5⟩ := hd5
    have D6 : Hid (Dl w6 (W4.heap.size + 1) (.slice a5 l5.length c5) l5) := ⟨a5, c5, rfl, p1, p2, p3, p4, p5⟩
    have T6 := hid (T5.out.draw hg5 hc5)
    have HW6 := hid (only_trans HW5d.out hg5)
    have HT5 := hid ht5
    clear hc5 hg5 ht5 p1 p2 p3 p4 p5
    go_wp2_with fail
    refine hK.out _ _ (trivial) (fun hHeld => ?_)
    clear hK K
    try simp only [Act.put, List.setIfInBounds_toArray, List.set_cons_zero, List.set_cons_succ]
    clear hHeld
    refine wpAnyH_ready (rs := [1, 4]) (by kernel_rfl) (by simp) ?_
    refine AllReadyH.cons (o := { dst := some 35, op := Op.load 26 (Operand.tmp 34), type := 26, pos := "l06_box.go:146", after := #[{ on := 0, ground := Ground.data }], guard := none }) rfl (fun K hK => ?_) ?_
    · have z0 := T6.out.box.cells
      go_simp
      clear z0
      refine hK.out _ _ (trivial) (fun hHeld => ?_)
      clear hK K
      try simp only [Act.put, List.setIfInBounds_toArray, List.set_cons_zero, List.set_cons_succ]
      clear hHeld
      refine wpAnyH_ready (rs := [4]) (by kernel_rfl) (by simp) ?_
      refine AllReadyH.cons (o := { dst := some 38, op := Op.buildSlice 26 1 #[(0, Operand.tmp 37)], type := 26, pos := "l06_box.go:146", after := #[{ on := 3, ground := Ground.data }], guard := none }) rfl (fun K hK => ?_) AllReadyH.nil
      go_simp
      refine hK.out _ _ (trivial) (fun hHeld => ?_)
      clear hK K
      try simp only [Act.put, List.setIfInBounds_toArray, List.set_cons_zero, List.set_cons_succ]
      clear hHeld
      refine wpAnyH_ready (rs := [5]) (by kernel_rfl) (by simp) ?_
      refine AllReadyH.cons (o := { dst := some 39, op := Op.call { callee := Callee.builtin Builtin.append, args := #[Operand.tmp 35, Operand.tmp 38], argTypes := #[26, 26] }, type := 26, pos := "l06_box.go:146", after := #[{ on := 1, ground := Ground.data }, { on := 4, ground := Ground.data }, { on := 3, ground := Ground.chain }], guard := none }) rfl (fun K hK => ?_) AllReadyH.nil
      refine step_append_mg rfl (.tmp 35) (.tmp 38) rfl B _ Z (by rfl) ((g5, u5, .slice a5 l5.length c5, l5, t5) : Z5) (HZ4.out.grown HW6.out (by have h1 := HBB.out; have h2 := T6.out.hi; omega)).row ⟨_, _, _, rfl⟩ (by rfl) (by have h1 := HZL.out; have h2 := HMN.out; omega) (by have h1 := HB4.out; have h2 := T6.out.box.lt; have h3 := HK4.out; omega) ?_
      intro v7 w7 hrow7 hg7 hl7
      obtain ⟨a7, n7, c7, rfl⟩ := row_slice hrow7
      have T8 := hid (As.more (z := ((g5, u5, .slice a5 l5.length c5, l5, t5) : Z5)) T6.out HK4.out HW6.out HZ.out HZ4.out HI4.out HDJ.out HBB.out D6.out HLO.out HT5.out HMN.out hrow7 hg7 hl7)
      have hb7 : Bx w7 kb 29 7 nm t b nx (.slice a mn c) (.slice a' gn c') := ((T6.out.later (bpush (bre _) (.cells #[.int .i64 g5, .int .i64 u5, .slice a5 l5.length c5, .string t5] 39))).box).grown hg7 (fun e => by have h1 := (HZ4.out.row.lt kb e.symm).2; have h2 := HK4.out; omega)
      have z7 := hb7.cells
      have y7 := hb7.loose
      clear hb7 hrow7 hg7 hl7
      refine hK.out _ _ (trivial) (fun hHeld => ?_)
      clear hK K
      try simp only [Act.put, List.setIfInBounds_toArray, List.set_cons_zero, List.set_cons_succ]
      refine wpAnyH_take (i := 6) (oi := { dst := some 40, op := Op.fieldAddr 29 (Operand.tmp 5) 4, type := 0, pos := "l06_box.go:146", after := #[{ on := 0, ground := Ground.phase }, { on := 1, ground := Ground.phase }, { on := 2, ground := Ground.phase }, { on := 3, ground := Ground.phase }, { on := 4, ground := Ground.phase }, { on := 5, ground := Ground.phase }], guard := none }) (v := ?vb4_6) rfl (by kernel_rfl) (by kernel_rfl) (by kernel_rfl) (fun _ _ _ h => h) (Or.inl ⟨by rfl, ?hyb4_6⟩) (by assumption) ?restb4_6
      case hyb4_6 => (intro w hSw; (try dsimp only at hSw); go_simp; try with_reducible rfl)
      try simp only [Act.put, List.setIfInBounds_toArray, List.set_cons_zero, List.set_cons_succ]
      clear hHeld
      refine wpAnyH_ready (rs := [7]) (by kernel_rfl) (by simp) ?_
      refine AllReadyH.cons (o := { dst := none, op := Op.store 26 (Operand.tmp 40) (Operand.tmp 39), type := 0, pos := "l06_box.go:146", after := #[{ on := 6, ground := Ground.data }, { on := 5, ground := Ground.data }, { on := 5, ground := Ground.chain }, { on := 0, ground := Ground.phase }, { on := 1, ground := Ground.phase }, { on := 2, ground := Ground.phase }, { on := 3, ground := Ground.phase }, { on := 4, ground := Ground.phase }, { on := 5, ground := Ground.phase }], guard := none }) rfl (fun K hK => ?_) AllReadyH.nil
      go_simp
      clear z7 y7
      refine hK.out _ _ (trivial) (fun hHeld => ?_)
      clear hK K
      try simp only [Act.put, List.setIfInBounds_toArray, List.set_cons_zero, List.set_cons_succ]
      refine wpAnyH_done (by kernel_rfl) ?_ _
      refine NoPanic.normal ?_
      have q0 := T8.out.box.cells
      have q1 := T8.out.res.cells
      have f1 := T8.out.res.loose
      go_wp2
      exact any6_end T8.out (fun W' _ d => by simp [results, Tryz.results50, go_sem, d])
    refine AllReadyH.cons (o := { dst := some 38, op := Op.buildSlice 26 1 #[(0, Operand.tmp 37)], type := 26, pos := "l06_box.go:146", after := #[{ on := 3, ground := Ground.data }], guard := none }) rfl (fun K hK => ?_) AllReadyH.nil
    go_simp
    refine hK.out _ _ (trivial) (fun hHeld => ?_)
    clear hK K
    try simp only [Act.put, List.setIfInBounds_toArray, List.set_cons_zero, List.set_cons_succ]
    clear hHeld
    refine wpAnyH_ready (rs := [1]) (by kernel_rfl) (by simp) ?_
    refine AllReadyH.cons (o := { dst := some 35, op := Op.load 26 (Operand.tmp 34), type := 26, pos := "l06_box.go:146", after := #[{ on := 0, ground := Ground.data }], guard := none }) rfl (fun K hK => ?_) AllReadyH.nil
    have z0 := (T6.out.later (bpush (bre _) (.cells #[.int .i64 g5, .int .i64 u5, .slice a5 l5.length c5, .string t5] 39))).box.cells
    go_simp
    clear z0
    refine hK.out _ _ (trivial) (fun hHeld => ?_)
    clear hK K
    try simp only [Act.put, List.setIfInBounds_toArray, List.set_cons_zero, List.set_cons_succ]
    clear hHeld
    refine wpAnyH_ready (rs := [5]) (by kernel_rfl) (by simp) ?_
    refine AllReadyH.cons (o := { dst := some 39, op := Op.call { callee := Callee.builtin Builtin.append, args := #[Operand.tmp 35, Operand.tmp 38], argTypes := #[26, 26] }, type := 26, pos := "l06_box.go:146", after := #[{ on := 1, ground := Ground.data }, { on := 4, ground := Ground.data }, { on := 3, ground := Ground.chain }], guard := none }) rfl (fun K hK => ?_) AllReadyH.nil
    refine step_append_mg rfl (.tmp 35) (.tmp 38) rfl B _ Z (by rfl) ((g5, u5, .slice a5 l5.length c5, l5, t5) : Z5) (HZ4.out.grown HW6.out (by have h1 := HBB.out; have h2 := T6.out.hi; omega)).row ⟨_, _, _, rfl⟩ (by rfl) (by have h1 := HZL.out; have h2 := HMN.out; omega) (by have h1 := HB4.out; have h2 := T6.out.box.lt; have h3 := HK4.out; omega) ?_
    intro v7 w7 hrow7 hg7 hl7
    obtain ⟨a7, n7, c7, rfl⟩ := row_slice hrow7
    have T8 := hid (As.more (z := ((g5, u5, .slice a5 l5.length c5, l5, t5) : Z5)) T6.out HK4.out HW6.out HZ.out HZ4.out HI4.out HDJ.out HBB.out D6.out HLO.out HT5.out HMN.out hrow7 hg7 hl7)
    have hb7 : Bx w7 kb 29 7 nm t b nx (.slice a mn c) (.slice a' gn c') := ((T6.out.later (bpush (bre _) (.cells #[.int .i64 g5, .int .i64 u5, .slice a5 l5.length c5, .string t5] 39))).box).grown hg7 (fun e => by have h1 := (HZ4.out.row.lt kb e.symm).2; have h2 := HK4.out; omega)
    have z7 := hb7.cells
    have y7 := hb7.loose
    clear hb7 hrow7 hg7 hl7
    refine hK.out _ _ (trivial) (fun hHeld => ?_)
    clear hK K
    try simp only [Act.put, List.setIfInBounds_toArray, List.set_cons_zero, List.set_cons_succ]
    refine wpAnyH_take (i := 6) (oi := { dst := some 40, op := Op.fieldAddr 29 (Operand.tmp 5) 4, type := 0, pos := "l06_box.go:146", after := #[{ on := 0, ground := Ground.phase }, { on := 1, ground := Ground.phase }, { on := 2, ground := Ground.phase }, { on := 3, ground := Ground.phase }, { on := 4, ground := Ground.phase }, { on := 5, ground := Ground.phase }], guard := none }) (v := ?vb5_6) rfl (by kernel_rfl) (by kernel_rfl) (by kernel_rfl) (fun _ _ _ h => h) (Or.inl ⟨by rfl, ?hyb5_6⟩) (by assumption) ?restb5_6
    case hyb5_6 => (intro w hSw; (try dsimp only at hSw); go_simp; try with_reducible rfl)
    try simp only [Act.put, List.setIfInBounds_toArray, List.set_cons_zero, List.set_cons_succ]
    clear hHeld
    refine wpAnyH_ready (rs := [7]) (by kernel_rfl) (by simp) ?_
    refine AllReadyH.cons (o := { dst := none, op := Op.store 26 (Operand.tmp 40) (Operand.tmp 39), type := 0, pos := "l06_box.go:146", after := #[{ on := 6, ground := Ground.data }, { on := 5, ground := Ground.data }, { on := 5, ground := Ground.chain }, { on := 0, ground := Ground.phase }, { on := 1, ground := Ground.phase }, { on := 2, ground := Ground.phase }, { on := 3, ground := Ground.phase }, { on := 4, ground := Ground.phase }, { on := 5, ground := Ground.phase }], guard := none }) rfl (fun K hK => ?_) AllReadyH.nil
    go_simp
    clear z7 y7
    refine hK.out _ _ (trivial) (fun hHeld => ?_)
    clear hK K
    try simp only [Act.put, List.setIfInBounds_toArray, List.set_cons_zero, List.set_cons_succ]
    refine wpAnyH_done (by kernel_rfl) ?_ _
    refine NoPanic.normal ?_
    have q0 := T8.out.box.cells
    have q1 := T8.out.res.cells
    have f1 := T8.out.res.loose
    go_wp2
    exact any6_end T8.out (fun W' _ d => by simp [results, Tryz.results50, go_sem, d])

  · have HOI : Hid (OwI W4 B (.slice a' gn c') G) := OwI.grown HI4.out HW5.out (by have := HBB.out; omega)
    have hsz4 : B ≤ W4.heap.size := Nat.le_trans HB4.out HW5.out.size
    go_wp2_with (at_builtin; refine wpList_append_ig W4 rfl (.tmp 44) (.tmp 46) rfl B _ G (by rfl) HOI.out (x : Int) (by rfl) (by have h1 := HGN.out; have h2 := HGL.out; omega) hsz4 ?_; intro v7 w7 hrow7 hg7 hl7; obtain ⟨a7, n7, c7, rfl⟩ := row_slice hrow7; have T8 := hid (As.moreG T4.out HK4.out HW5.out HZ.out HZ4.out HI4.out HDJ.out HDZ.out HBB.out HGN.out hrow7 hg7 hl7); have hb7 : Bx w7 kb 29 7 nm t b nx (.slice a mn c) (.slice a' gn c') := ((T4.out.later (bpush (bre _) _)).box).grown hg7 (fun e => by have h1 := (HI4.out.lt kb e.symm).2; have h2 := HK4.out; omega); have hr7 : Bx w7 w.heap.size 29 0 ⟨#[]⟩ 0 0 0 (.slice none 0 0) (.slice none 0 0) := ((T4.out.later (bpush (bre _) _)).res).grown hg7 (fun e => by have h1 := (HI4.out.lt w.heap.size e.symm).1; have h2 := HBB.out; omega); have z7 := hb7.cells; have y7 := hb7.loose; have r7 := hr7.cells; have s7 := hr7.loose; clear hb7 hr7 hrow7 hg7 hl7)
    exact any6_end T8.out (fun W' _ d => by simp [results, Tryz.results50, go_sem, d])
  · clear q0 f0
    go_wp2_with fail
    try rw [hkb]
    try rw [hW4]
    clear hW4 hkb
    refine (l03Any_any cb ao n cap _ hn T4.out.cur (HO.out.later T4.out.gr)).mono ?_; rintro e w5 ⟨t5, b5, rfl, hc, hg⟩
    have T5 := hid (T4.out.draw hg hc)
    have q0 := T5.out.box.cells
    have f0 := T5.out.box.loose
    have q1 := T5.out.res.cells
    have f1 := T5.out.res.loose
    clear hc hg
    go_wp2
    have hs : w5.grownBy ((w5.setCell ⟨kb, 2, none⟩ (.int .i64 t5)).setCell ⟨kb, 3, none⟩ (.int .i64 b5)) (some kb) := wst (wst (wre _ _) _ _) _ _
    exact any6_end (T5.out.turn (Nat.le_refl _) hs ((T5.out.box.s2 t5).s3 b5) T5.out.bg.nmz) (fun W' _ d => by simp [results, Tryz.results50, go_sem, d])
  · have e0 : ((k : Int) == 0) = false := by simp; omega
    have e1 : ((k : Int) == 1) = false := by simp; omega
    have e2 : ((k : Int) == 2) = false := by simp; omega
    have e3 : ((k : Int) == 3) = false := by simp; omega
    have e4 : ((k : Int) == 4) = false := by simp; omega
    have e5 : ((k : Int) == 5) = false := by simp; omega
    clear k6
    go_wp2
    exact any6_end T4.out (fun W' _ d => by simp [results, Tryz.results50, go_sem, d])
end Go.Proofs.YtfmacodnjhegcabGreat

namespace Go.Proofs.YtfmacodnjhegcabGreat
open Go.RowKit Go.ChangeMaps

/-- A box's data as they read, wherever they lie. -/
def Bq (W : World) (lo : Nat) (nm : ByteArray) (ma : Option Addr) (mn mc : Nat) (ga : Option Addr) (gn gc : Nat) (L : List M4) (G : List Int) : Prop := ∃ hi, Bg W lo hi nm ma mn mc ga gn gc L G
theorem Bq.later {W W' : World} {lo : Nat} {nm : ByteArray} {ma : Option Addr} {mn mc : Nat} {ga : Option Addr} {gn gc : Nat} {L : List M4} {G : List Int} (h : Bq W lo nm ma mn mc ga gn gc L G) (hb : Below W.heap.size W W') : Bq W' lo nm ma mn mc ga gn gc L G := by
  obtain ⟨hi, h⟩ := h
  exact ⟨hi, h.later hb⟩
/-- How a call ends that hands back a drawn box and a number. -/
def Pair6 (w : World) (e : Ending) (w' : World) : Prop :=
  ∃ (g : Int) (nm : ByteArray) (t b nx : Int) (ma : Option Addr) (mn mc : Nat) (ga : Option Addr) (gn gc : Nat) (L : List M4) (G : List Int) (gid : Int), e = .returned (.tuple #[.agg #[.int .i64 g, .string nm, .int .i64 t, .int .i64 b, .int .i64 nx, .slice ma mn mc, .slice ga gn gc], .int .i64 gid]) ∧ Bq w' (w.heap.size + 1) nm ma mn mc ga gn gc L G ∧ Below w.heap.size w w'
def One6 (w : World) (e : Ending) (w' : World) : Prop :=
  ∃ (g : Int) (nm : ByteArray) (t b nx : Int) (ma : Option Addr) (mn mc : Nat) (ga : Option Addr) (gn gc : Nat) (L : List M4) (G : List Int), e = .returned (.agg #[.int .i64 g, .string nm, .int .i64 t, .int .i64 b, .int .i64 nx, .slice ma mn mc, .slice ga gn gc]) ∧ Bq w' (w.heap.size + 1) nm ma mn mc ga gn gc L G ∧ Below w.heap.size w w'
def Right6 (w : World) (e : Ending) (w' : World) : Prop :=
  ∃ (g : Int) (nm : ByteArray) (t b nx : Int) (ma : Option Addr) (mn mc : Nat) (ga : Option Addr) (gn gc : Nat) (L : List M4) (G : List Int), e = .returned (.agg #[.int .i64 g, .string nm, .int .i64 t, .int .i64 b, .int .i64 nx, .slice ma mn mc, .slice ga gn gc]) ∧ Dbx 11 g nm t b nx L G ∧ Bq w' (w.heap.size + 1) nm ma mn mc ga gn gc L G ∧ Below w.heap.size w w'
def Add6 (w : World) (e : Ending) (w' : World) : Prop :=
  ∃ (g : Int) (nm : ByteArray) (t b nx : Int) (ma : Option Addr) (mn mc : Nat) (ga : Option Addr) (gn gc : Nat) (L : List M4) (G : List Int) (gid fl : Int) (tx : ByteArray) (st sb : Int), e = .returned (.tuple #[.agg #[.int .i64 g, .string nm, .int .i64 t, .int .i64 b, .int .i64 nx, .slice ma mn mc, .slice ga gn gc], .int .i64 gid, .int .i64 fl, .string tx, .agg #[.int .i64 st, .int .i64 sb]]) ∧ tx.size ≤ 100 ∧ Bq w' (w.heap.size + 1) nm ma mn mc ga gn gc L G ∧ Below w.heap.size w w'
def Flag6 (w : World) (e : Ending) (w' : World) : Prop :=
  ∃ (g : Int) (nm : ByteArray) (t b nx : Int) (ma : Option Addr) (mn mc : Nat) (ga : Option Addr) (gn gc : Nat) (L : List M4) (G : List Int) (gid fl : Int) (st sb : Int), e = .returned (.tuple #[.agg #[.int .i64 g, .string nm, .int .i64 t, .int .i64 b, .int .i64 nx, .slice ma mn mc, .slice ga gn gc], .int .i64 gid, .int .i64 fl, .agg #[.int .i64 st, .int .i64 sb]]) ∧ Bq w' (w.heap.size + 1) nm ma mn mc ga gn gc L G ∧ Below w.heap.size w w'
theorem Bg.set7 {W : World} {lo hi k : Nat} {nm : ByteArray} {ma : Option Addr} {mn mc : Nat} {ga : Option Addr} {gn gc : Nat} {L : List M4} {G : List Int} (h : Bg W lo hi nm ma mn mc ga gn gc L G) (hk : k < lo) (g' : Int) (nm' : ByteArray) (t' b' nx' : Int) (v v' : Value) : Bg (Go.Proofs.YtfmacodnjhegcabGreat.set7 W k g' nm' t' b' nx' v v') lo hi nm ma mn mc ga gn gc L G :=
  h.far (set7_grown W k g' nm' t' b' nx' v v') (.inl hk)

set_option maxHeartbeats 1600000 in
set_option maxRecDepth 100000 in
theorem l06Pair_any (ao : Option Addr) (n cap : Nat) (w : World) (hn : n ≤ 1048576) (hcode : Code w w.heap.size ao n) :
    Calls Tryz.prog 55 #[.slice ao n cap] w fun e w' => Pair6 w e w' := by
  have R0 := hid (Bx.new w 29 0 ⟨#[]⟩ 0 0 0 (.slice none 0 0) (.slice none 0 0))
  have N0 := hid (bpush (bre w) (.cells #[.int .i64 0, .string ⟨#[]⟩, .int .i64 0, .int .i64 0, .int .i64 0, .slice none 0 0, .slice none 0 0] 29))
  have O0 := hid (hcode.over N0.out)
  clear hcode
  go_enter Tryz.func55, Tryz.ntmps55
  go_wp2_with fail
  refine (new_any ao n cap _ hn O0.out).mono ?_; rintro e w1 ⟨rfl, hc, ho, hb⟩
  have e1 : (w.alloc (.cells #[.int .i64 0, .string ⟨#[]⟩, .int .i64 0, .int .i64 0, .int .i64 0, .slice none 0 0, .slice none 0 0] 29)).heap.size = w.heap.size + 1 := by simp
  rw [e1] at hc ho ⊢
  have C1 := hid hc
  have O1 := hid ho
  have R1 := hid (R0.out.later hb)
  have B1 := hid (btr N0.out hb)
  clear hc ho hb R0 N0 O0 e1
  go_wp2_with fail
  refine (below4 (w.heap.size + 1) ao n cap _ hn C1.out O1.out 9 (by decide) (by decide)).mono ?_; rintro e w2 ⟨x, hx, rfl, hc, hg⟩
  have C2 := hid hc
  have O2 := hid (O1.out.later hg)
  have R2 := hid (R1.out.far hg (by omega))
  have B2 := hid (B1.out.trans (only_below hg (by omega) B1.out.size))
  clear hc hg R1 B1 C1 O1
  go_wp2_with fail
  clear hx
  refine (l06Any_any (w.heap.size + 1) ao n cap _ hn C2.out O2.out).mono ?_; rintro e w3 ⟨g, nm, t, b, nx, ma, mn, mc, ga, gn, gc, L, G, hi, rfl, hbg, hc, hg⟩
  have R3 := hid (R2.out.far hg (by omega))
  have HS : Hid (w.heap.size < w2.heap.size) := R2.out.lt
  have B3 := hid (B2.out.trans (only_below hg (by omega) B2.out.size))
  have HB := hid hbg
  have q1 := R3.out.cells
  have f1 := R3.out.loose
  clear hbg hc hg R2 B2 C2 O2
  go_wp2
  have hs := HS.out
  have d1 := (R3.out.set7 g nm t b nx (.slice ma mn mc) (.slice ga gn gc)).cells
  have e2 := B3.out.trans (below_of_grown (set7_grown w3 w.heap.size g nm t b nx (.slice ma mn mc) (.slice ga gn gc)) (Nat.le_refl _) B3.out.size)
  have e3 := HB.out.set7 (k := w.heap.size) (by omega) g nm t b nx (.slice ma mn mc) (.slice ga gn gc)
  unfold Go.Proofs.YtfmacodnjhegcabGreat.set7 at d1 e2 e3
  refine bodyPost_ret (v := .tuple #[.agg #[.int .i64 g, .string nm, .int .i64 t, .int .i64 b, .int .i64 nx, .slice ma mn mc, .slice ga gn gc], .int .i64 (10 + (x : Int))]) (by simp [results, Tryz.results55, go_sem, d1]) rfl ⟨g, nm, t, b, nx, ma, mn, mc, ga, gn, gc, L, G, _, rfl, ⟨_, e3.wide (by omega) (Nat.le_refl _) e3.mails.1⟩, e2⟩

set_option maxHeartbeats 1600000 in
set_option maxRecDepth 100000 in
theorem drawBoxOk_any (ao : Option Addr) (n cap : Nat) (w : World) (hn : n ≤ 1048576) (hcode : Code w w.heap.size ao n) :
    Calls Tryz.prog 18 #[.slice ao n cap] w fun e w' => One6 w e w' := by
  have R0 := hid (Bx.new w 29 0 ⟨#[]⟩ 0 0 0 (.slice none 0 0) (.slice none 0 0))
  have N0 := hid (bpush (bre w) (.cells #[.int .i64 0, .string ⟨#[]⟩, .int .i64 0, .int .i64 0, .int .i64 0, .slice none 0 0, .slice none 0 0] 29))
  have O0 := hid (hcode.over N0.out)
  clear hcode
  go_enter Tryz.func18, Tryz.ntmps18
  go_wp2_with fail
  refine (new_any ao n cap _ hn O0.out).mono ?_; rintro e w2 ⟨rfl, hc, ho, hb⟩
  have e1 : (w.alloc (.cells #[.int .i64 0, .string ⟨#[]⟩, .int .i64 0, .int .i64 0, .int .i64 0, .slice none 0 0, .slice none 0 0] 29)).heap.size = w.heap.size + 1 := by simp
  rw [e1] at hc ho ⊢
  have C2 := hid hc
  have O2 := hid ho
  have R2 := hid (R0.out.later hb)
  have B2 := hid (btr N0.out hb)
  clear hc ho hb R0 N0 O0 e1
  go_wp2_with fail
  refine (l06Any_any (w.heap.size + 1) ao n cap _ hn C2.out O2.out).mono ?_; rintro e w3 ⟨g, nm, t, b, nx, ma, mn, mc, ga, gn, gc, L, G, hi, rfl, hbg, hc, hg⟩
  have R3 := hid (R2.out.far hg (by omega))
  have HS : Hid (w.heap.size < w2.heap.size) := R2.out.lt
  have B3 := hid (B2.out.trans (only_below hg (by omega) B2.out.size))
  have HB := hid hbg
  have q1 := R3.out.cells
  have f1 := R3.out.loose
  clear hbg hc hg R2 B2 C2 O2
  go_wp2
  have hs := HS.out
  have d1 := (R3.out.set7 g nm t b nx (.slice ma mn mc) (.slice ga gn gc)).cells
  have e2 := B3.out.trans (below_of_grown (set7_grown w3 w.heap.size g nm t b nx (.slice ma mn mc) (.slice ga gn gc)) (Nat.le_refl _) B3.out.size)
  have e3 := HB.out.set7 (k := w.heap.size) (by omega) g nm t b nx (.slice ma mn mc) (.slice ga gn gc)
  unfold Go.Proofs.YtfmacodnjhegcabGreat.set7 at d1 e2 e3
  refine bodyPost_ret (v := .agg #[.int .i64 g, .string nm, .int .i64 t, .int .i64 b, .int .i64 nx, .slice ma mn mc, .slice ga gn gc]) (by simp [results, Tryz.results18, go_sem, d1]) rfl ⟨g, nm, t, b, nx, ma, mn, mc, ga, gn, gc, L, G, rfl, ⟨_, e3.wide (by omega) (Nat.le_refl _) e3.mails.1⟩, e2⟩

set_option maxHeartbeats 1600000 in
set_option maxRecDepth 100000 in
theorem drawBox_any (ao : Option Addr) (n cap : Nat) (w : World) (hn : n ≤ 1048576) (hcode : Code w w.heap.size ao n) :
    Calls Tryz.prog 7 #[.slice ao n cap] w fun e w' => Right6 w e w' := by
  have R0 := hid (Bx.new w 29 0 ⟨#[]⟩ 0 0 0 (.slice none 0 0) (.slice none 0 0))
  have N0 := hid (bpush (bre w) (.cells #[.int .i64 0, .string ⟨#[]⟩, .int .i64 0, .int .i64 0, .int .i64 0, .slice none 0 0, .slice none 0 0] 29))
  have O0 := hid (hcode.over N0.out)
  clear hcode
  go_enter Tryz.func7, Tryz.ntmps7
  go_wp2_with fail
  refine (new_any ao n cap _ hn O0.out).mono ?_; rintro e w2 ⟨rfl, hc, ho, hb⟩
  have e1 : (w.alloc (.cells #[.int .i64 0, .string ⟨#[]⟩, .int .i64 0, .int .i64 0, .int .i64 0, .slice none 0 0, .slice none 0 0] 29)).heap.size = w.heap.size + 1 := by simp
  rw [e1] at hc ho ⊢
  have C2 := hid hc
  have O2 := hid ho
  have R2 := hid (R0.out.later hb)
  have B2 := hid (btr N0.out hb)
  clear hc ho hb R0 N0 O0 e1
  go_wp2_with fail
  refine (l06Box_any (w.heap.size + 1) ao n cap _ hn C2.out O2.out).mono ?_; rintro e w3 ⟨nm, t, b, nx, ma, mn, mc, ga, gn, gc, L, G, rfl, hd, hown, hc, hg⟩
  have R3 := hid (R2.out.far hg (by omega))
  have HS : Hid (w.heap.size < w2.heap.size) := R2.out.lt
  have B3 := hid (B2.out.trans (only_below hg (by omega) B2.out.size))
  have HD := hid hd
  have HOB := hid hown
  have q1 := R3.out.cells
  have f1 := R3.out.loose
  clear hd hown hc hg R2 B2 C2 O2
  go_wp2
  have hs := HS.out
  have d1 := (R3.out.set7 7 nm t b nx (.slice ma mn mc) (.slice ga gn gc)).cells
  have e2 := B3.out.trans (below_of_grown (set7_grown w3 w.heap.size 7 nm t b nx (.slice ma mn mc) (.slice ga gn gc)) (Nat.le_refl _) B3.out.size)
  have hr := HOB.out.reads
  obtain ⟨s1, s2, s3, s4⟩ := HD.out.sm
  have hbg : Bg w3 (w2.heap.size + 1) w3.heap.size nm ma mn mc ga gn gc L G := ⟨by omega, hr.1.symm, by omega, s3, hr.2.2.1, HOB.out.none.1, hr.2.1.symm, by omega, hr.2.2.2, HOB.out.none.2⟩
  have e3 := hbg.set7 (k := w.heap.size) (by omega) 7 nm t b nx (.slice ma mn mc) (.slice ga gn gc)
  unfold Go.Proofs.YtfmacodnjhegcabGreat.set7 at d1 e2 e3
  refine bodyPost_ret (v := .agg #[.int .i64 7, .string nm, .int .i64 t, .int .i64 b, .int .i64 nx, .slice ma mn mc, .slice ga gn gc]) (by simp [results, Tryz.results7, go_sem, d1]) rfl ⟨7, nm, t, b, nx, ma, mn, mc, ga, gn, gc, L, G, rfl, HD.out, ⟨_, e3.wide (by omega) (Nat.le_refl _) e3.mails.1⟩, e2⟩

set_option maxHeartbeats 1600000 in
set_option maxRecDepth 100000 in
theorem drawTakeOut_any (ao : Option Addr) (n cap : Nat) (w : World) (hn : n ≤ 1048576) (hcode : Code w w.heap.size ao n) :
    Calls Tryz.prog 23 #[.slice ao n cap] w fun e w' => Pair6 w e w' := by
  have R0 := hid (Bx.new w 29 0 ⟨#[]⟩ 0 0 0 (.slice none 0 0) (.slice none 0 0))
  have N0 := hid (bpush (bre w) (.cells #[.int .i64 0, .string ⟨#[]⟩, .int .i64 0, .int .i64 0, .int .i64 0, .slice none 0 0, .slice none 0 0] 29))
  have O0 := hid (hcode.over N0.out)
  clear hcode
  go_enter Tryz.func23, Tryz.ntmps23
  go_wp2_with fail
  refine (l06Pair_any ao n cap _ hn O0.out).mono ?_; rintro e w3 ⟨g, nm, t, b, nx, ma, mn, mc, ga, gn, gc, L, G, gid, rfl, ⟨hi, hbg⟩, hb⟩
  have R3 := hid (R0.out.later hb)
  have B3 := hid (btr N0.out hb)
  have HB := hid hbg
  have q1 := R3.out.cells
  have f1 := R3.out.loose
  clear hbg hb R0 N0 O0
  go_wp2
  have d1 := (R3.out.set7 g nm t b nx (.slice ma mn mc) (.slice ga gn gc)).cells
  have e2 := B3.out.trans (below_of_grown (set7_grown w3 w.heap.size g nm t b nx (.slice ma mn mc) (.slice ga gn gc)) (Nat.le_refl _) B3.out.size)
  have e3 := HB.out.set7 (k := w.heap.size) (by simp; omega) g nm t b nx (.slice ma mn mc) (.slice ga gn gc)
  unfold Go.Proofs.YtfmacodnjhegcabGreat.set7 at d1 e2 e3
  refine bodyPost_ret (v := .tuple #[.agg #[.int .i64 g, .string nm, .int .i64 t, .int .i64 b, .int .i64 nx, .slice ma mn mc, .slice ga gn gc], .int .i64 gid]) (by simp [results, Tryz.results23, go_sem, d1]) rfl ⟨g, nm, t, b, nx, ma, mn, mc, ga, gn, gc, L, G, _, rfl, ⟨_, e3.wide (by simp) (Nat.le_refl _) e3.mails.1⟩, e2⟩

theorem box_st (w : World) (W0 : World) (h : (w.alloc (.cells #[.int .i64 0, .string ⟨#[]⟩, .int .i64 0, .int .i64 0, .int .i64 0, .slice none 0 0, .slice none 0 0] 29)).alloc (.cells #[.int .i64 0, .int .i64 0] 25) = W0) : Bx W0 w.heap.size 29 0 ⟨#[]⟩ 0 0 0 (.slice none 0 0) (.slice none 0 0) ∧ Sg W0 (w.heap.size + 1) 25 0 0 ∧ Below w.heap.size w W0 ∧ W0.heap.size = w.heap.size + 1 + 1 := by
  subst h
  refine ⟨(Bx.new w _ _ _ _ _ _ _ _).later (bpush (bre _) _), ?_, bpush (bpush (bre _) _) _, by simp⟩
  simpa using Sg.new (w.alloc (.cells #[.int .i64 0, .string ⟨#[]⟩, .int .i64 0, .int .i64 0, .int .i64 0, .slice none 0 0, .slice none 0 0] 29)) 25 0 0
/-- The box and the stamp that are handed back. -/
structure Rs6 (w W : World) : Prop where
  bx : Bx W w.heap.size 29 0 ⟨#[]⟩ 0 0 0 (.slice none 0 0) (.slice none 0 0)
  sg : Sg W (w.heap.size + 1) 25 0 0
  bel : Below w.heap.size w W
theorem Rs6.later {w W W' : World} (h : Rs6 w W) (hb : Below W.heap.size W W') : Rs6 w W' := ⟨h.bx.later hb, h.sg.later hb, btr h.bel hb⟩
theorem Rs6.drew {w W : World} (h : Rs6 w W) : Rs6 w W.drew := h.later (bdr (bre _))
theorem Rs6.draw {w W W' : World} (h : Rs6 w W) (hg : W.grownBy W' (some (w.heap.size + 1 + 1))) : Rs6 w W' :=
  ⟨h.bx.far hg (by omega), h.sg.kept hg (by omega), h.bel.trans (only_below hg (by omega) h.bel.size)⟩
theorem two_rows (w : World) (x y : Int) (i : Nat) (h : i < [x, y].length) : (w.alloc (.cells #[.int .i64 x, .int .i64 y] 3)).cell? ⟨w.heap.size, i, none⟩ = some (.int .i64 [x, y][i]) := by
  rw [cell_of_row _ w.heap.size i _ _ (0, 0) (heap_alloc_new w _)]
  have hi : i < 2 := h
  match i, hi with
  | 0, _ => rfl
  | 1, _ => rfl

set_option maxHeartbeats 3200000 in
set_option maxRecDepth 100000 in
theorem drawFlagMail_any (ao : Option Addr) (n cap : Nat) (w : World) (hn : n ≤ 1048576) (hcode : Code w w.heap.size ao n) :
    Calls Tryz.prog 21 #[.slice ao n cap] w fun e w' => Flag6 w e w' := by
  obtain ⟨W0, hW0⟩ : ∃ W0, (w.alloc (.cells #[.int .i64 0, .string ⟨#[]⟩, .int .i64 0, .int .i64 0, .int .i64 0, .slice none 0 0, .slice none 0 0] 29)).alloc (.cells #[.int .i64 0, .int .i64 0] 25) = W0 := ⟨_, rfl⟩
  obtain ⟨a0, a1, b0, s0⟩ := box_st w W0 hW0
  have T0 : Hid (Rs6 w W0) := ⟨a0, a1, b0⟩
  have O0 := hid (hcode.over b0)
  have S0 := hid s0
  have HCW := hid hcode
  clear a0 a1 b0 s0 hcode
  go_enter Tryz.func21, Tryz.ntmps21
  go_wp2_with fail
  try rw [hW0]
  clear hW0
  refine (new_any ao n cap _ hn O0.out).mono ?_; rintro e w1 ⟨rfl, hc, ho, hb⟩
  rw [S0.out] at hc ho ⊢
  have C1 := hid hc
  have O1 := hid ho
  have T1 := hid (T0.out.later hb)
  clear hc ho hb T0 S0
  go_wp2_with fail
  refine (below4 (w.heap.size + 1 + 1) ao n cap _ hn C1.out O1.out 10 (by decide) (by decide)).mono ?_; rintro e w2 ⟨x, hx, rfl, hc, hg⟩
  have C2 := hid hc
  have O2 := hid (O1.out.later hg)
  have T2 := hid (T1.out.draw hg)
  clear hc hg T1 C1 O1
  go_wp2_with fail
  clear hx
  generalize (x : Int) - 1 = fl
  refine (l03Any_any (w.heap.size + 1 + 1) ao n cap _ hn C2.out O2.out).mono ?_; rintro e w3 ⟨st, sb, rfl, hc, hg⟩
  have T3 := hid (T2.out.draw hg)
  obtain ⟨W3, hW3⟩ : ∃ W3, w3.alloc (.cells #[.int .i64 st, .int .i64 sb] 25) = W3 := ⟨_, rfl⟩
  obtain ⟨kt, hkt⟩ : ∃ kt, w3.heap.size = kt := ⟨_, rfl⟩
  have T4 : Hid (Rs6 w W3) := by rw [← hW3]; exact T3.out.later (bpush (bre _) _)
  have SG4 : Hid (Sg W3 kt 25 st sb) := by rw [← hW3, ← hkt]; exact Sg.new w3 _ st sb
  have KL : Hid (w.heap.size + 1 < kt) := by rw [← hkt]; exact T3.out.sg.lt
  have O4 : Hid (Code W3 W3.heap.size ao n) := (HCW.out).over T4.out.bel
  clear hc hg T2 T3 C2 O2
  go_wp2_with fail
  try rw [hkt]
  try rw [hW3]
  clear hW3 hkt
  refine (l06Pair_any ao n cap _ hn O4.out).mono ?_; rintro e w5 ⟨g, nm, t, b, nx, ma, mn, mc, ga, gn, gc, L, G, gid, rfl, ⟨hi, hbg⟩, hb⟩
  obtain ⟨W5, hW5⟩ : ∃ W5, w5.alloc (.cells #[.int .i64 g, .string nm, .int .i64 t, .int .i64 b, .int .i64 nx, .slice ma mn mc, .slice ga gn gc] 29) = W5 := ⟨_, rfl⟩
  obtain ⟨kb, hkb⟩ : ∃ kb, w5.heap.size = kb := ⟨_, rfl⟩
  have T5 : Hid (Rs6 w W5) := by rw [← hW5]; exact (T4.out.later hb).later (bpush (bre _) _)
  have SG5 : Hid (Sg W5 kt 25 st sb) := by rw [← hW5]; exact (SG4.out.later hb).later (bpush (bre _) _)
  have BX5 : Hid (Bx W5 kb 29 g nm t b nx (.slice ma mn mc) (.slice ga gn gc)) := by rw [← hW5, ← hkb]; exact Bx.new _ _ _ _ _ _ _ _ _
  have KB : Hid (kt < kb) := by rw [← hkb]; exact (SG4.out.later hb).lt
  have HB : Hid (Bg W5 (w.heap.size + 1 + 1) hi nm ma mn mc ga gn gc L G) := by
    rw [← hW5]
    have h1 := KL.out
    have h2 := SG4.out.lt
    exact (hbg.later (bpush (bre _) _)).wide (by omega) (Nat.le_refl _) (hbg.later (bpush (bre _) _)).mails.1
  clear hbg hb T4 SG4 O4
  go_wp2_with fail
  try rw [hkb]
  try rw [hW5]
  clear hW5 hkb
  refine wp_region_noPanic ?_
  refine wp_region_held_drew (S := (fun W => (W.cell? ⟨kb, 0, none⟩ = some (.int .i64 g) ∧ W.cell? ⟨kb, 1, none⟩ = some (.string nm) ∧ W.cell? ⟨kb, 2, none⟩ = some (.int .i64 t) ∧ W.cell? ⟨kb, 3, none⟩ = some (.int .i64 b) ∧ W.cell? ⟨kb, 4, none⟩ = some (.int .i64 nx) ∧ W.cell? ⟨kb, 5, none⟩ = some (.slice ma mn mc) ∧ W.cell? ⟨kb, 6, none⟩ = some (.slice ga gn gc)) ∧ (W.cell? ⟨kt, 0, none⟩ = some (.int .i64 st) ∧ W.cell? ⟨kt, 1, none⟩ = some (.int .i64 sb)))) (by kernel_rfl) (⟨(BX5.out.later (bdr (bre _))).cells, (SG5.out.later (bdr (bre _))).cells⟩) (fun hHeld => ?_)
  refine wpAnyH_take (i := 0) (oi := { dst := some 23, op := Op.load 29 (Operand.tmp 9), type := 29, pos := "l06_box.go:192", after := #[], guard := none }) (v := ?vb1_0) rfl (by kernel_rfl) (by kernel_rfl) (by kernel_rfl) (fun _ _ _ h => h) (Or.inl ⟨by rfl, ?hyb1_0⟩) (by assumption) ?restb1_0
  case hyb1_0 => (intro w hSw; (try dsimp only at hSw); go_simp; try with_reducible rfl)
  try simp only [Act.put, List.setIfInBounds_toArray, List.set_cons_zero, List.set_cons_succ]
  refine wpAnyH_take (i := 1) (oi := { dst := some 24, op := Op.move (Operand.tmp 10), type := 3, pos := "l06_box.go:192", after := #[{ on := 4, ground := Ground.gcOnly Departure.lateStores }], guard := none }) (v := ?vb2_1) rfl (by kernel_rfl) (by kernel_rfl) (by kernel_rfl) (fun _ _ _ h => h) (Or.inl ⟨by rfl, ?hyb2_1⟩) (by assumption) ?restb2_1
  case hyb2_1 => (intro w hSw; (try dsimp only at hSw); go_simp; try with_reducible rfl)
  try simp only [Act.put, List.setIfInBounds_toArray, List.set_cons_zero, List.set_cons_succ]
  refine wpAnyH_take (i := 2) (oi := { dst := some 25, op := Op.move (Operand.tmp 7), type := 3, pos := "l06_box.go:192", after := #[{ on := 5, ground := Ground.gcOnly Departure.lateStores }], guard := none }) (v := ?vb3_2) rfl (by kernel_rfl) (by kernel_rfl) (by kernel_rfl) (fun _ _ _ h => h) (Or.inl ⟨by rfl, ?hyb3_2⟩) (by assumption) ?restb3_2
  case hyb3_2 => (intro w hSw; (try dsimp only at hSw); go_simp; try with_reducible rfl)
  try simp only [Act.put, List.setIfInBounds_toArray, List.set_cons_zero, List.set_cons_succ]
  refine wpAnyH_take (i := 3) (oi := { dst := some 26, op := Op.load 25 (Operand.tmp 8), type := 25, pos := "l06_box.go:192", after := #[{ on := 6, ground := Ground.gcOnly Departure.lateStores }], guard := none }) (v := ?vb4_3) rfl (by kernel_rfl) (by kernel_rfl) (by kernel_rfl) (fun _ _ _ h => h) (Or.inl ⟨by rfl, ?hyb4_3⟩) (by assumption) ?restb4_3
  case hyb4_3 => (intro w hSw; (try dsimp only at hSw); go_simp; try with_reducible rfl)
  try simp only [Act.put, List.setIfInBounds_toArray, List.set_cons_zero, List.set_cons_succ]
  clear hHeld
  refine wpAnyH_ready (rs := [4]) (by kernel_rfl) (by simp) ?_
  refine AllReadyH.cons (o := { dst := none, op := Op.store 29 (Operand.tmp 2) (Operand.tmp 23), type := 0, pos := "l06_box.go:192", after := #[{ on := 0, ground := Ground.data }, { on := 0, ground := Ground.phase }, { on := 1, ground := Ground.textOnly Departure.lateStores }, { on := 2, ground := Ground.textOnly Departure.lateStores }, { on := 3, ground := Ground.textOnly Departure.lateStores }], guard := none }) rfl (fun K hK => ?_) AllReadyH.nil
  have q1 := T5.out.bx.cells
  have f1 := T5.out.bx.loose
  go_simp
  clear q1 f1
  have S7 : Hid (W5.grownBy (((((((W5.setCell ⟨w.heap.size, 0, none⟩ (.int .i64 g)).setCell ⟨w.heap.size, 1, none⟩ (.string nm)).setCell ⟨w.heap.size, 2, none⟩ (.int .i64 t)).setCell ⟨w.heap.size, 3, none⟩ (.int .i64 b)).setCell ⟨w.heap.size, 4, none⟩ (.int .i64 nx)).setCell ⟨w.heap.size, 5, none⟩ (.slice ma mn mc)).setCell ⟨w.heap.size, 6, none⟩ (.slice ga gn gc)) (some w.heap.size)) := by have h := set7_grown W5 w.heap.size g nm t b nx (.slice ma mn mc) (.slice ga gn gc); unfold Go.Proofs.YtfmacodnjhegcabGreat.set7 at h; exact h
  have BX7 := hid (BX5.out.far S7.out (by have h1 := KL.out; have h2 := KB.out; omega))
  have SG7 := hid (SG5.out.kept S7.out (by have h1 := KL.out; omega))
  have TS7 := hid (T5.out.sg.kept S7.out (by omega))
  have R7 : Hid (Bx (((((((W5.setCell ⟨w.heap.size, 0, none⟩ (.int .i64 g)).setCell ⟨w.heap.size, 1, none⟩ (.string nm)).setCell ⟨w.heap.size, 2, none⟩ (.int .i64 t)).setCell ⟨w.heap.size, 3, none⟩ (.int .i64 b)).setCell ⟨w.heap.size, 4, none⟩ (.int .i64 nx)).setCell ⟨w.heap.size, 5, none⟩ (.slice ma mn mc)).setCell ⟨w.heap.size, 6, none⟩ (.slice ga gn gc)) w.heap.size 29 g nm t b nx (.slice ma mn mc) (.slice ga gn gc)) := by have h := Bx.set7 (W := W5) T5.out.bx g nm t b nx (.slice ma mn mc) (.slice ga gn gc); unfold Go.Proofs.YtfmacodnjhegcabGreat.set7 at h; exact h
  have HB7 := hid (HB.out.far S7.out (.inl (by omega)))
  have BE7 := hid (T5.out.bel.trans (below_of_grown S7.out (Nat.le_refl _) T5.out.bel.size))
  refine hK.out _ _ (⟨(BX7.out.later (bdr (bre _))).cells, (SG7.out.later (bdr (bre _))).cells⟩) (fun hHeld => ?_)
  clear hK K
  try simp only [Act.put, List.setIfInBounds_toArray, List.set_cons_zero, List.set_cons_succ]
  refine wpAnyH_take (i := 5) (oi := { dst := some 3, op := Op.assign (Operand.tmp 24), type := 3, pos := "l06_box.go:192", after := #[{ on := 1, ground := Ground.data }, { on := 4, ground := Ground.chain }, { on := 0, ground := Ground.phase }, { on := 1, ground := Ground.phase }, { on := 2, ground := Ground.textOnly Departure.lateStores }, { on := 3, ground := Ground.textOnly Departure.lateStores }, { on := 4, ground := Ground.phase }], guard := none }) (v := ?vb5_5) rfl (by kernel_rfl) (by kernel_rfl) (by kernel_rfl) (fun _ _ _ h => h) (Or.inl ⟨by rfl, ?hyb5_5⟩) (by assumption) ?restb5_5
  case hyb5_5 => (intro w hSw; (try dsimp only at hSw); go_simp; try with_reducible rfl)
  try simp only [Act.put, List.setIfInBounds_toArray, List.set_cons_zero, List.set_cons_succ]
  refine wpAnyH_take (i := 6) (oi := { dst := some 4, op := Op.assign (Operand.tmp 25), type := 3, pos := "l06_box.go:192", after := #[{ on := 2, ground := Ground.data }, { on := 5, ground := Ground.chain }, { on := 0, ground := Ground.phase }, { on := 1, ground := Ground.phase }, { on := 2, ground := Ground.phase }, { on := 3, ground := Ground.textOnly Departure.lateStores }, { on := 4, ground := Ground.phase }, { on := 5, ground := Ground.phase }], guard := none }) (v := ?vb6_6) rfl (by kernel_rfl) (by kernel_rfl) (by kernel_rfl) (fun _ _ _ h => h) (Or.inl ⟨by rfl, ?hyb6_6⟩) (by assumption) ?restb6_6
  case hyb6_6 => (intro w hSw; (try dsimp only at hSw); go_simp; try with_reducible rfl)
  try simp only [Act.put, List.setIfInBounds_toArray, List.set_cons_zero, List.set_cons_succ]
  clear hHeld
  refine wpAnyH_ready (rs := [7]) (by kernel_rfl) (by simp) ?_
  refine AllReadyH.cons (o := { dst := none, op := Op.store 25 (Operand.tmp 5) (Operand.tmp 26), type := 0, pos := "l06_box.go:192", after := #[{ on := 3, ground := Ground.data }, { on := 6, ground := Ground.chain }, { on := 0, ground := Ground.phase }, { on := 1, ground := Ground.phase }, { on := 2, ground := Ground.phase }, { on := 3, ground := Ground.phase }, { on := 4, ground := Ground.phase }, { on := 5, ground := Ground.phase }, { on := 6, ground := Ground.phase }], guard := none }) rfl (fun K hK => ?_) AllReadyH.nil
  have q2 := TS7.out.cells
  have f2 := TS7.out.loose
  go_simp
  clear q2 f2
  have S8 : Hid ((((((((W5.setCell ⟨w.heap.size, 0, none⟩ (.int .i64 g)).setCell ⟨w.heap.size, 1, none⟩ (.string nm)).setCell ⟨w.heap.size, 2, none⟩ (.int .i64 t)).setCell ⟨w.heap.size, 3, none⟩ (.int .i64 b)).setCell ⟨w.heap.size, 4, none⟩ (.int .i64 nx)).setCell ⟨w.heap.size, 5, none⟩ (.slice ma mn mc)).setCell ⟨w.heap.size, 6, none⟩ (.slice ga gn gc)).grownBy ((((((((((W5.setCell ⟨w.heap.size, 0, none⟩ (.int .i64 g)).setCell ⟨w.heap.size, 1, none⟩ (.string nm)).setCell ⟨w.heap.size, 2, none⟩ (.int .i64 t)).setCell ⟨w.heap.size, 3, none⟩ (.int .i64 b)).setCell ⟨w.heap.size, 4, none⟩ (.int .i64 nx)).setCell ⟨w.heap.size, 5, none⟩ (.slice ma mn mc)).setCell ⟨w.heap.size, 6, none⟩ (.slice ga gn gc))).setCell ⟨w.heap.size + 1, 0, none⟩ (.int .i64 st)).setCell ⟨w.heap.size + 1, 1, none⟩ (.int .i64 sb)) (some (w.heap.size + 1))) := wst (wst (wre _ _) _ _) _ _
  have BX8 := hid (BX7.out.far S8.out (by have h1 := KL.out; have h2 := KB.out; omega))
  have SG8 := hid (SG7.out.kept S8.out (by have h1 := KL.out; omega))
  refine hK.out _ _ (⟨(BX8.out.later (bdr (bre _))).cells, (SG8.out.later (bdr (bre _))).cells⟩) (fun hHeld => ?_)
  clear hK K
  try simp only [Act.put, List.setIfInBounds_toArray, List.set_cons_zero, List.set_cons_succ]
  refine wpAnyH_done (by kernel_rfl) ?_ _
  refine NoPanic.normal ?_
  go_wp2
  have d1 := (R7.out.far S8.out (by omega)).cells
  have d2 := (TS7.out.set' (t' := st) (b' := sb)).cells
  refine bodyPost_ret (v := .tuple #[.agg #[.int .i64 g, .string nm, .int .i64 t, .int .i64 b, .int .i64 nx, .slice ma mn mc, .slice ga gn gc], .int .i64 gid, .int .i64 fl, .agg #[.int .i64 st, .int .i64 sb]]) (by simp [results, Tryz.results21, go_sem, d1, d2]) rfl ⟨g, nm, t, b, nx, ma, mn, mc, ga, gn, gc, L, G, gid, fl, st, sb, rfl, ⟨hi, ((HB7.out.far S8.out (.inl (by omega))).later (bdr (bre _))).wide (by omega) (Nat.le_refl _) ((HB7.out.far S8.out (.inl (by omega))).later (bdr (bre _))).mails.1⟩, (BE7.out.trans (below_of_grown S8.out (by omega) BE7.out.size)).drew⟩


/-- Between the draws: what is handed back, the cursor. -/
structure Rc6 (w W : World) (ao : Option Addr) (n cap : Nat) : Prop where
  rs : Rs6 w W
  cur : Cur W (w.heap.size + 1 + 1) ao n cap
  code : Code W (w.heap.size + 1 + 1) ao n
theorem Rc6.draw {w W W' : World} {ao : Option Addr} {n cap : Nat} (h : Rc6 w W ao n cap) (hg : W.grownBy W' (some (w.heap.size + 1 + 1))) (hc : Cur W' (w.heap.size + 1 + 1) ao n cap) : Rc6 w W' ao n cap := ⟨h.rs.draw hg, hc, h.code.later hg⟩
theorem Rc6.later {w W W' : World} {ao : Option Addr} {n cap : Nat} (h : Rc6 w W ao n cap) (hb : Below W.heap.size W W') : Rc6 w W' ao n cap :=
  ⟨h.rs.later hb, h.cur.later hb h.cur.lt, h.code.later ⟨hb.os, hb.tape, hb.output, hb.size, fun k hk _ => hb.block k hk⟩⟩
/-- All that DrawAddMail has drawn ahead of the number. -/
structure Rd6 (w W : World) (ao : Option Addr) (n cap kt kb hi : Nat) (st sb : Int) (g : Int) (nm : ByteArray) (t b nx : Int) (ma : Option Addr) (mn mc : Nat) (ga : Option Addr) (gn gc : Nat) (L : List M4) (G : List Int) : Prop where
  rc : Rc6 w W ao n cap
  sg : Sg W kt 25 st sb
  bx : Bx W kb 29 g nm t b nx (.slice ma mn mc) (.slice ga gn gc)
  bg : Bg W (w.heap.size + 1 + 1 + 1) hi nm ma mn mc ga gn gc L G
  kl : w.heap.size + 1 + 1 < kt
  kk : kt < kb
theorem Rd6.draw {w W W' : World} {ao : Option Addr} {n cap kt kb hi : Nat} {st sb g : Int} {nm : ByteArray} {t b nx : Int} {ma : Option Addr} {mn mc : Nat} {ga : Option Addr} {gn gc : Nat} {L : List M4} {G : List Int} (h : Rd6 w W ao n cap kt kb hi st sb g nm t b nx ma mn mc ga gn gc L G) (hg : W.grownBy W' (some (w.heap.size + 1 + 1))) (hc : Cur W' (w.heap.size + 1 + 1) ao n cap) : Rd6 w W' ao n cap kt kb hi st sb g nm t b nx ma mn mc ga gn gc L G := by
  have h1 := h.kl
  have h2 := h.kk
  exact ⟨h.rc.draw hg hc, h.sg.kept hg (by omega), h.bx.far hg (by omega), h.bg.far hg (.inl (by omega)), h1, h2⟩
theorem Rd6.later {w W W' : World} {ao : Option Addr} {n cap kt kb hi : Nat} {st sb g : Int} {nm : ByteArray} {t b nx : Int} {ma : Option Addr} {mn mc : Nat} {ga : Option Addr} {gn gc : Nat} {L : List M4} {G : List Int} (h : Rd6 w W ao n cap kt kb hi st sb g nm t b nx ma mn mc ga gn gc L G) (hb : Below W.heap.size W W') : Rd6 w W' ao n cap kt kb hi st sb g nm t b nx ma mn mc ga gn gc L G :=
  ⟨h.rc.later hb, h.sg.later hb, h.bx.later hb, h.bg.later hb, h.kl, h.kk⟩

set_option maxHeartbeats 3200000 in
set_option maxRecDepth 100000 in
theorem drawAddMail_any (ao : Option Addr) (n cap : Nat) (w : World) (hn : n ≤ 1048576) (hcode : Code w w.heap.size ao n) :
    Calls Tryz.prog 19 #[.slice ao n cap] w fun e w' => Add6 w e w' := by
  obtain ⟨W0, hW0⟩ : ∃ W0, (w.alloc (.cells #[.int .i64 0, .string ⟨#[]⟩, .int .i64 0, .int .i64 0, .int .i64 0, .slice none 0 0, .slice none 0 0] 29)).alloc (.cells #[.int .i64 0, .int .i64 0] 25) = W0 := ⟨_, rfl⟩
  obtain ⟨a0, a1, b0, s0⟩ := box_st w W0 hW0
  have T0 : Hid (Rs6 w W0) := ⟨a0, a1, b0⟩
  have O0 := hid (hcode.over b0)
  have S0 := hid s0
  have HCW := hid hcode
  clear a0 a1 b0 s0 hcode
  go_enter Tryz.func19, Tryz.ntmps19
  go_wp2_with fail
  try rw [hW0]
  clear hW0
  refine (new_any ao n cap _ hn O0.out).mono ?_; rintro e w1 ⟨rfl, hc, ho, hb⟩
  rw [S0.out] at hc ho ⊢
  have T1 : Hid (Rc6 w w1 ao n cap) := ⟨T0.out.later hb, hc, ho⟩
  clear hc ho hb T0 S0
  go_wp2_with fail
  refine (below4 (w.heap.size + 1 + 1) ao n cap _ hn T1.out.cur T1.out.code 10 (by decide) (by decide)).mono ?_; rintro e w2 ⟨x, hx, rfl, hc, hg⟩
  have T2 := hid (T1.out.draw hg hc)
  clear hc hg T1
  go_wp2_with fail
  clear hx
  generalize (x : Int) - 1 = fl
  refine (l05Text_any (w.heap.size + 1 + 1) ao n cap _ hn T2.out.cur T2.out.code).mono ?_; rintro e w3 ⟨ty, hty, rfl, hc, hg⟩
  have T3 := hid (T2.out.draw hg hc)
  have HTY := hid hty
  clear hc hg T2 hty
  go_wp2_with fail
  refine (once_any (w.heap.size + 1 + 1) ao n cap _ hn T3.out.cur T3.out.code 10 (by decide) (by decide)).mono ?_; rintro e w4 ⟨ob, rfl, hc, hg⟩
  have T4 := hid (T3.out.draw hg hc)
  clear hc hg T3
  go_upto_if 21 with fail
  go_cut [9] from 13 (fun s wx => ∃ tx : ByteArray, s = .string tx ∧ tx.size ≤ 100 ∧ Rc6 w wx ao n cap)
  case first =>
    cases ob
    · go_wp2
      go_meet
      exact ⟨ty, rfl, by have := HTY.out; omega, T4.out⟩
    · go_wp2_with fail
      have h1 := long_any 61 97 w4 (by omega)
      refine (show Calls Tryz.prog 53 #[.int .i64 61, .int .u8 97] w4 _ from h1).mono ?_; rintro e w5 ⟨bs, hbs, rfl, hb⟩
      have T5 := hid (T4.out.later hb)
      have HBS := hid hbs
      clear hb hbs h1
      go_wp2
      go_meet
      exact ⟨_, rfl, by show bs.toArray.size ≤ 100; rw [List.size_toArray, HBS.out]; decide, T5.out⟩
  case rest =>
    obtain ⟨tx, rfl, htx, hT⟩ := hcut
    have HTX := hid htx
    have T5 := hid hT
    clear htx hT T4 HTY
    go_wp2_with fail
    refine (l03Any_any (w.heap.size + 1 + 1) ao n cap _ hn T5.out.cur T5.out.code).mono ?_; rintro e w6 ⟨st, sb, rfl, hc, hg⟩
    have T6 := hid (T5.out.draw hg hc)
    obtain ⟨W6, hW6⟩ : ∃ W6, w6.alloc (.cells #[.int .i64 st, .int .i64 sb] 25) = W6 := ⟨_, rfl⟩
    obtain ⟨kt, hkt⟩ : ∃ kt, w6.heap.size = kt := ⟨_, rfl⟩
    have T7 : Hid (Rc6 w W6 ao n cap) := by rw [← hW6]; exact T6.out.later (bpush (bre _) _)
    have SG7 : Hid (Sg W6 kt 25 st sb) := by rw [← hW6, ← hkt]; exact Sg.new w6 _ st sb
    have KT : Hid (w.heap.size + 1 + 1 < kt) := by rw [← hkt]; exact T6.out.cur.lt
    have O7 : Hid (Code W6 W6.heap.size ao n) := HCW.out.over T7.out.rs.bel
    clear hc hg T5 T6
    go_wp2_with fail
    try rw [hkt]
    try rw [hW6]
    clear hW6 hkt
    refine (l06Pair_any ao n cap _ hn O7.out).mono ?_; rintro e w8 ⟨g, nm, t, b, nx, ma, mn, mc, ga, gn, gc, L, G, gid0, rfl, ⟨hi, hbg⟩, hb⟩
    obtain ⟨W8, hW8⟩ : ∃ W8, w8.alloc (.cells #[.int .i64 g, .string nm, .int .i64 t, .int .i64 b, .int .i64 nx, .slice ma mn mc, .slice ga gn gc] 29) = W8 := ⟨_, rfl⟩
    obtain ⟨kb, hkb⟩ : ∃ kb, w8.heap.size = kb := ⟨_, rfl⟩
    have D8 : Hid (Rd6 w W8 ao n cap kt kb hi st sb g nm t b nx ma mn mc ga gn gc L G) := by
      have h1 := KT.out
      have h2 := SG7.out.lt
      refine ⟨?_, ?_, ?_, ?_, KT.out, ?_⟩
      · rw [← hW8]; exact (T7.out.later hb).later (bpush (bre _) _)
      · rw [← hW8]; exact (SG7.out.later hb).later (bpush (bre _) _)
      · rw [← hW8, ← hkb]; exact Bx.new _ _ _ _ _ _ _ _ _
      · rw [← hW8]; exact (hbg.later (bpush (bre _) _)).wide (by omega) (Nat.le_refl _) (hbg.later (bpush (bre _) _)).mails.1
      · rw [← hkb]; exact (SG7.out.later hb).lt
    clear hbg hb T7 SG7 O7
    go_wp2_with fail
    try rw [hkb]
    try rw [hW8]
    clear hW8 hkb
    refine (once_any (w.heap.size + 1 + 1) ao n cap _ hn D8.out.rc.cur D8.out.rc.code 10 (by decide) (by decide)).mono ?_; rintro e w9 ⟨ob', rfl, hc, hg⟩
    have D9 := hid (D8.out.draw hg hc)
    clear hc hg D8
    go_upto_if 31 with fail
    go_cut [12] from 13 (fun s wx => ∃ gid : Int, s = .int .i64 gid ∧ Rd6 w wx ao n cap kt kb hi st sb g nm t b nx ma mn mc ga gn gc L G)
    case first =>
      cases ob'
      · go_wp2
        go_meet
        exact ⟨gid0, rfl, D9.out⟩
      · go_wp2_with fail
        refine (pickInt_any (w.heap.size + 1 + 1) w9.heap.size 2 [0, 10000] ao n cap _ hn (D9.out.later (bpush (bre _) _)).rc.cur (D9.out.later (bpush (bre _) _)).rc.code rfl (by decide) (by decide) (by have := D9.out.rc.cur.lt; omega) (two_rows w9 0 10000)).mono ?_; rintro e w10 ⟨y, _, rfl, hc, hg⟩
        have D10 := hid ((D9.out.later (bpush (bre _) _)).draw hg hc)
        clear hc hg
        go_wp2
        go_meet
        exact ⟨y, rfl, D10.out⟩
    case rest =>
      obtain ⟨gid, rfl, hD⟩ := hcut
      obtain ⟨W5, hW5⟩ : ∃ W5, wc = W5 := ⟨_, rfl⟩
      subst hW5
      have T5 := hid hD.rc.rs
      have SG5 := hid hD.sg
      have BX5 := hid hD.bx
      have KL : Hid (w.heap.size + 1 < kt) := by have := hD.kl; show _ < _; omega
      have KB := hid hD.kk
      have HB : Hid (Bg wc (w.heap.size + 1 + 1) hi nm ma mn mc ga gn gc L G) := hD.bg.wide (by omega) (Nat.le_refl _) hD.bg.mails.1
      clear hD D9
      go_wp2_with fail
      refine wp_region_noPanic ?_
      refine wp_region_held_drew (S := (fun W => (W.cell? ⟨kb, 0, none⟩ = some (.int .i64 g) ∧ W.cell? ⟨kb, 1, none⟩ = some (.string nm) ∧ W.cell? ⟨kb, 2, none⟩ = some (.int .i64 t) ∧ W.cell? ⟨kb, 3, none⟩ = some (.int .i64 b) ∧ W.cell? ⟨kb, 4, none⟩ = some (.int .i64 nx) ∧ W.cell? ⟨kb, 5, none⟩ = some (.slice ma mn mc) ∧ W.cell? ⟨kb, 6, none⟩ = some (.slice ga gn gc)) ∧ (W.cell? ⟨kt, 0, none⟩ = some (.int .i64 st) ∧ W.cell? ⟨kt, 1, none⟩ = some (.int .i64 sb)))) (by kernel_rfl) (⟨(BX5.out.later (bdr (bre _))).cells, (SG5.out.later (bdr (bre _))).cells⟩) (fun hHeld => ?_)
      refine wpAnyH_take (i := 0) (oi := { dst := some 35, op := Op.load 29 (Operand.tmp 11), type := 29, pos := "l06_box.go:184", after := #[], guard := none }) (v := ?vc1_0) rfl (by kernel_rfl) (by kernel_rfl) (by kernel_rfl) (fun _ _ _ h => h) (Or.inl ⟨by rfl, ?hyc1_0⟩) (by assumption) ?restc1_0
      case hyc1_0 => (intro w hSw; (try dsimp only at hSw); go_simp; try with_reducible rfl)
      try simp only [Act.put, List.setIfInBounds_toArray, List.set_cons_zero, List.set_cons_succ]
      refine wpAnyH_take (i := 1) (oi := { dst := some 36, op := Op.move (Operand.tmp 12), type := 3, pos := "l06_box.go:184", after := #[{ on := 5, ground := Ground.gcOnly Departure.lateStores }], guard := none }) (v := ?vc2_1) rfl (by kernel_rfl) (by kernel_rfl) (by kernel_rfl) (fun _ _ _ h => h) (Or.inl ⟨by rfl, ?hyc2_1⟩) (by assumption) ?restc2_1
      case hyc2_1 => (intro w hSw; (try dsimp only at hSw); go_simp; try with_reducible rfl)
      try simp only [Act.put, List.setIfInBounds_toArray, List.set_cons_zero, List.set_cons_succ]
      refine wpAnyH_take (i := 2) (oi := { dst := some 37, op := Op.move (Operand.tmp 8), type := 3, pos := "l06_box.go:184", after := #[{ on := 6, ground := Ground.gcOnly Departure.lateStores }], guard := none }) (v := ?vc3_2) rfl (by kernel_rfl) (by kernel_rfl) (by kernel_rfl) (fun _ _ _ h => h) (Or.inl ⟨by rfl, ?hyc3_2⟩) (by assumption) ?restc3_2
      case hyc3_2 => (intro w hSw; (try dsimp only at hSw); go_simp; try with_reducible rfl)
      try simp only [Act.put, List.setIfInBounds_toArray, List.set_cons_zero, List.set_cons_succ]
      refine wpAnyH_take (i := 3) (oi := { dst := some 38, op := Op.move (Operand.tmp 9), type := 9, pos := "l06_box.go:184", after := #[{ on := 7, ground := Ground.gcOnly Departure.lateStores }], guard := none }) (v := ?vc4_3) rfl (by kernel_rfl) (by kernel_rfl) (by kernel_rfl) (fun _ _ _ h => h) (Or.inl ⟨by rfl, ?hyc4_3⟩) (by assumption) ?restc4_3
      case hyc4_3 => (intro w hSw; (try dsimp only at hSw); go_simp; try with_reducible rfl)
      try simp only [Act.put, List.setIfInBounds_toArray, List.set_cons_zero, List.set_cons_succ]
      refine wpAnyH_take (i := 4) (oi := { dst := some 39, op := Op.load 25 (Operand.tmp 10), type := 25, pos := "l06_box.go:184", after := #[{ on := 8, ground := Ground.gcOnly Departure.lateStores }], guard := none }) (v := ?vc5_4) rfl (by kernel_rfl) (by kernel_rfl) (by kernel_rfl) (fun _ _ _ h => h) (Or.inl ⟨by rfl, ?hyc5_4⟩) (by assumption) ?restc5_4
      case hyc5_4 => (intro w hSw; (try dsimp only at hSw); go_simp; try with_reducible rfl)
      try simp only [Act.put, List.setIfInBounds_toArray, List.set_cons_zero, List.set_cons_succ]
      clear hHeld
      refine wpAnyH_ready (rs := [5]) (by kernel_rfl) (by simp) ?_
      refine AllReadyH.cons (o := { dst := none, op := Op.store 29 (Operand.tmp 2) (Operand.tmp 35), type := 0, pos := "l06_box.go:184", after := #[{ on := 0, ground := Ground.data }, { on := 0, ground := Ground.phase }, { on := 1, ground := Ground.textOnly Departure.lateStores }, { on := 2, ground := Ground.textOnly Departure.lateStores }, { on := 3, ground := Ground.textOnly Departure.lateStores }, { on := 4, ground := Ground.textOnly Departure.lateStores }], guard := none }) rfl (fun K hK => ?_) AllReadyH.nil
      have q1 := T5.out.bx.cells
      have f1 := T5.out.bx.loose
      go_simp
      clear q1 f1
      have S7 : Hid (wc.grownBy (((((((wc.setCell ⟨w.heap.size, 0, none⟩ (.int .i64 g)).setCell ⟨w.heap.size, 1, none⟩ (.string nm)).setCell ⟨w.heap.size, 2, none⟩ (.int .i64 t)).setCell ⟨w.heap.size, 3, none⟩ (.int .i64 b)).setCell ⟨w.heap.size, 4, none⟩ (.int .i64 nx)).setCell ⟨w.heap.size, 5, none⟩ (.slice ma mn mc)).setCell ⟨w.heap.size, 6, none⟩ (.slice ga gn gc)) (some w.heap.size)) := by have h := set7_grown wc w.heap.size g nm t b nx (.slice ma mn mc) (.slice ga gn gc); unfold Go.Proofs.YtfmacodnjhegcabGreat.set7 at h; exact h
      have BX7 := hid (BX5.out.far S7.out (by have h1 := KL.out; have h2 := KB.out; omega))
      have SG7 := hid (SG5.out.kept S7.out (by have h1 := KL.out; omega))
      have TS7 := hid (T5.out.sg.kept S7.out (by omega))
      have R7 : Hid (Bx (((((((wc.setCell ⟨w.heap.size, 0, none⟩ (.int .i64 g)).setCell ⟨w.heap.size, 1, none⟩ (.string nm)).setCell ⟨w.heap.size, 2, none⟩ (.int .i64 t)).setCell ⟨w.heap.size, 3, none⟩ (.int .i64 b)).setCell ⟨w.heap.size, 4, none⟩ (.int .i64 nx)).setCell ⟨w.heap.size, 5, none⟩ (.slice ma mn mc)).setCell ⟨w.heap.size, 6, none⟩ (.slice ga gn gc)) w.heap.size 29 g nm t b nx (.slice ma mn mc) (.slice ga gn gc)) := by have h := Bx.set7 (W := wc) T5.out.bx g nm t b nx (.slice ma mn mc) (.slice ga gn gc); unfold Go.Proofs.YtfmacodnjhegcabGreat.set7 at h; exact h
      have HB7 := hid (HB.out.far S7.out (.inl (by omega)))
      have BE7 := hid (T5.out.bel.trans (below_of_grown S7.out (Nat.le_refl _) T5.out.bel.size))
      refine hK.out _ _ (⟨(BX7.out.later (bdr (bre _))).cells, (SG7.out.later (bdr (bre _))).cells⟩) (fun hHeld => ?_)
      clear hK K
      try simp only [Act.put, List.setIfInBounds_toArray, List.set_cons_zero, List.set_cons_succ]
      refine wpAnyH_take (i := 6) (oi := { dst := some 3, op := Op.assign (Operand.tmp 36), type := 3, pos := "l06_box.go:184", after := #[{ on := 1, ground := Ground.data }, { on := 5, ground := Ground.chain }, { on := 0, ground := Ground.phase }, { on := 1, ground := Ground.phase }, { on := 2, ground := Ground.textOnly Departure.lateStores }, { on := 3, ground := Ground.textOnly Departure.lateStores }, { on := 4, ground := Ground.textOnly Departure.lateStores }, { on := 5, ground := Ground.phase }], guard := none }) (v := ?vc6_6) rfl (by kernel_rfl) (by kernel_rfl) (by kernel_rfl) (fun _ _ _ h => h) (Or.inl ⟨by rfl, ?hyc6_6⟩) (by assumption) ?restc6_6
      case hyc6_6 => (intro w hSw; (try dsimp only at hSw); go_simp; try with_reducible rfl)
      try simp only [Act.put, List.setIfInBounds_toArray, List.set_cons_zero, List.set_cons_succ]
      refine wpAnyH_take (i := 7) (oi := { dst := some 4, op := Op.assign (Operand.tmp 37), type := 3, pos := "l06_box.go:184", after := #[{ on := 2, ground := Ground.data }, { on := 6, ground := Ground.chain }, { on := 0, ground := Ground.phase }, { on := 1, ground := Ground.phase }, { on := 2, ground := Ground.phase }, { on := 3, ground := Ground.textOnly Departure.lateStores }, { on := 4, ground := Ground.textOnly Departure.lateStores }, { on := 5, ground := Ground.phase }, { on := 6, ground := Ground.phase }], guard := none }) (v := ?vc7_7) rfl (by kernel_rfl) (by kernel_rfl) (by kernel_rfl) (fun _ _ _ h => h) (Or.inl ⟨by rfl, ?hyc7_7⟩) (by assumption) ?restc7_7
      case hyc7_7 => (intro w hSw; (try dsimp only at hSw); go_simp; try with_reducible rfl)
      try simp only [Act.put, List.setIfInBounds_toArray, List.set_cons_zero, List.set_cons_succ]
      refine wpAnyH_take (i := 8) (oi := { dst := some 5, op := Op.assign (Operand.tmp 38), type := 9, pos := "l06_box.go:184", after := #[{ on := 3, ground := Ground.data }, { on := 7, ground := Ground.chain }, { on := 0, ground := Ground.phase }, { on := 1, ground := Ground.phase }, { on := 2, ground := Ground.phase }, { on := 3, ground := Ground.phase }, { on := 4, ground := Ground.textOnly Departure.lateStores }, { on := 5, ground := Ground.phase }, { on := 6, ground := Ground.phase }, { on := 7, ground := Ground.phase }], guard := none }) (v := ?vc8_8) rfl (by kernel_rfl) (by kernel_rfl) (by kernel_rfl) (fun _ _ _ h => h) (Or.inl ⟨by rfl, ?hyc8_8⟩) (by assumption) ?restc8_8
      case hyc8_8 => (intro w hSw; (try dsimp only at hSw); go_simp; try with_reducible rfl)
      try simp only [Act.put, List.setIfInBounds_toArray, List.set_cons_zero, List.set_cons_succ]
      clear hHeld
      refine wpAnyH_ready (rs := [9]) (by kernel_rfl) (by simp) ?_
      refine AllReadyH.cons (o := { dst := none, op := Op.store 25 (Operand.tmp 6) (Operand.tmp 39), type := 0, pos := "l06_box.go:184", after := #[{ on := 4, ground := Ground.data }, { on := 8, ground := Ground.chain }, { on := 0, ground := Ground.phase }, { on := 1, ground := Ground.phase }, { on := 2, ground := Ground.phase }, { on := 3, ground := Ground.phase }, { on := 4, ground := Ground.phase }, { on := 5, ground := Ground.phase }, { on := 6, ground := Ground.phase }, { on := 7, ground := Ground.phase }, { on := 8, ground := Ground.phase }], guard := none }) rfl (fun K hK => ?_) AllReadyH.nil
      have q2 := TS7.out.cells
      have f2 := TS7.out.loose
      go_simp
      clear q2 f2
      have S8 : Hid ((((((((wc.setCell ⟨w.heap.size, 0, none⟩ (.int .i64 g)).setCell ⟨w.heap.size, 1, none⟩ (.string nm)).setCell ⟨w.heap.size, 2, none⟩ (.int .i64 t)).setCell ⟨w.heap.size, 3, none⟩ (.int .i64 b)).setCell ⟨w.heap.size, 4, none⟩ (.int .i64 nx)).setCell ⟨w.heap.size, 5, none⟩ (.slice ma mn mc)).setCell ⟨w.heap.size, 6, none⟩ (.slice ga gn gc)).grownBy ((((((((((wc.setCell ⟨w.heap.size, 0, none⟩ (.int .i64 g)).setCell ⟨w.heap.size, 1, none⟩ (.string nm)).setCell ⟨w.heap.size, 2, none⟩ (.int .i64 t)).setCell ⟨w.heap.size, 3, none⟩ (.int .i64 b)).setCell ⟨w.heap.size, 4, none⟩ (.int .i64 nx)).setCell ⟨w.heap.size, 5, none⟩ (.slice ma mn mc)).setCell ⟨w.heap.size, 6, none⟩ (.slice ga gn gc))).setCell ⟨w.heap.size + 1, 0, none⟩ (.int .i64 st)).setCell ⟨w.heap.size + 1, 1, none⟩ (.int .i64 sb)) (some (w.heap.size + 1))) := wst (wst (wre _ _) _ _) _ _
      have BX8 := hid (BX7.out.far S8.out (by have h1 := KL.out; have h2 := KB.out; omega))
      have SG8 := hid (SG7.out.kept S8.out (by have h1 := KL.out; omega))
      refine hK.out _ _ (⟨(BX8.out.later (bdr (bre _))).cells, (SG8.out.later (bdr (bre _))).cells⟩) (fun hHeld => ?_)
      clear hK K
      try simp only [Act.put, List.setIfInBounds_toArray, List.set_cons_zero, List.set_cons_succ]
      refine wpAnyH_done (by kernel_rfl) ?_ _
      refine NoPanic.normal ?_
      go_wp2
      have d1 := (R7.out.far S8.out (by omega)).cells
      have d2 := (TS7.out.set' (t' := st) (b' := sb)).cells
      refine bodyPost_ret (v := .tuple #[.agg #[.int .i64 g, .string nm, .int .i64 t, .int .i64 b, .int .i64 nx, .slice ma mn mc, .slice ga gn gc], .int .i64 gid, .int .i64 fl, .string tx, .agg #[.int .i64 st, .int .i64 sb]]) (by simp [results, Tryz.results19, go_sem, d1, d2]) rfl ⟨g, nm, t, b, nx, ma, mn, mc, ga, gn, gc, L, G, gid, fl, tx, st, sb, rfl, HTX.out, ⟨hi, ((HB7.out.far S8.out (.inl (by omega))).later (bdr (bre _))).wide (by omega) (Nat.le_refl _) ((HB7.out.far S8.out (.inl (by omega))).later (bdr (bre _))).mails.1⟩, (BE7.out.trans (below_of_grown S8.out (by omega) BE7.out.size)).drew⟩


theorem seven_texts (w : World) (e : Nat) (a b c d f g h : ByteArray) : ∀ i (hi : i < [a, b, c, d, f, g, h].length), (w.alloc (.cells #[.string a, .string b, .string c, .string d, .string f, .string g, .string h] e)).cell? ⟨w.heap.size, i, none⟩ = some (.string [a, b, c, d, f, g, h][i]) := by
  intro i hi
  have hh := heap_alloc_new w (.cells #[.string a, .string b, .string c, .string d, .string f, .string g, .string h] e)
  have h2 : i = 0 ∨ i = 1 ∨ i = 2 ∨ i = 3 ∨ i = 4 ∨ i = 5 ∨ i = 6 := by simp at hi; omega
  rcases h2 with rfl | rfl | rfl | rfl | rfl | rfl | rfl
  · exact cell_of_row _ _ 0 _ _ _ hh
  · exact cell_of_row _ _ 1 _ _ _ hh
  · exact cell_of_row _ _ 2 _ _ _ hh
  · exact cell_of_row _ _ 3 _ _ _ hh
  · exact cell_of_row _ _ 4 _ _ _ hh
  · exact cell_of_row _ _ 5 _ _ _ hh
  · exact cell_of_row _ _ 6 _ _ _ hh

set_option maxHeartbeats 800000 in
set_option maxRecDepth 100000 in
theorem drawNameOk_any (ao : Option Addr) (n cap : Nat) (w : World) (hn : n ≤ 1048576) (hcode : Code w w.heap.size ao n) :
    Calls Tryz.prog 25 #[.slice ao n cap] w fun e w' => ∃ x : ByteArray, x.size ≤ 20 ∧ e = .returned (.string x) ∧ Below w.heap.size w w' := by
  have HO := hid hcode
  clear hcode
  go_enter Tryz.func25, Tryz.ntmps25
  go_wp2_with fail
  refine (new_any ao n cap _ hn HO.out).mono ?_; rintro e w1 ⟨rfl, hc, ho, hb⟩
  have C1 := hid hc
  have O1 := hid ho
  have B1 := hid hb
  have hlt := hc.lt
  clear hc ho hb
  go_wp2_with fail
  refine (pick_any w.heap.size w1.heap.size 7 20 [⟨#[]⟩, ⟨#[97]⟩, ⟨#[97, 98, 99, 57]⟩, ⟨#[116, 119, 101, 108, 118, 101, 115, 105, 103, 110, 115, 57]⟩, ⟨#[116, 104, 105, 114, 116, 101, 101, 110, 115, 105, 103, 110, 115]⟩, ⟨#[65]⟩, ⟨#[97, 32, 98]⟩] ao n cap _ hn (C1.out.alloc _) (O1.out.later (World.grownBy_alloc _ _ _)) rfl (by decide) (by decide) (by omega) (by decide) (seven_texts w1 _ _ _ _ _ _ _ _)).mono ?_
  rintro e w2 ⟨x, hx, rfl, hc, hg⟩
  have HX := hid hx
  have B2 := hid ((B1.out.alloc B1.out.size _).trans (only_below hg (Nat.le_refl _) (B1.out.alloc B1.out.size _).size))
  clear hx hc hg
  go_wp2
  go_ret
  exact ⟨x, HX.out, rfl, B2.out⟩
end Go.Proofs.YtfmacodnjhegcabGreat

namespace Go.Proofs.YtfmacodnjhegcabGreat
open Go.RowKit Go.ChangeMaps

/-- A box's lists as they read. -/
structure Bz (W : World) (ma : Option Addr) (mn mc : Nat) (ga : Option Addr) (gn gc : Nat) (L : List M4) (G : List Int) : Prop where
  len : L.length = mn
  most : mn ≤ 1048576
  sm : Sm L
  mails : ∃ lo hi, Ms lo hi W ma L
  m0 : ma = none → mc = 0
  glen : G.length = gn
  gmost : gn ≤ 1048576
  gone : ∃ lo hi, Is lo hi W ga G
  g0 : ga = none → gc = 0
section
variable {W W' : World} {ma : Option Addr} {mn mc : Nat} {ga : Option Addr} {gn gc : Nat} {L : List M4} {G : List Int}
theorem Bz.later (h : Bz W ma mn mc ga gn gc L G) (hb : Below W.heap.size W W') : Bz W' ma mn mc ga gn gc L G := by
  obtain ⟨l1, h1, hm⟩ := h.mails
  obtain ⟨l2, h2, hi⟩ := h.gone
  exact ⟨h.len, h.most, h.sm, ⟨l1, h1, hm.later hb⟩, h.m0, h.glen, h.gmost, ⟨l2, h2, hi.later hb⟩, h.g0⟩
theorem Bq.bz {lo : Nat} {nm : ByteArray} (h : Bq W lo nm ma mn mc ga gn gc L G) : Bz W ma mn mc ga gn gc L G ∧ nm.size ≤ 20 := by
  obtain ⟨hi, h⟩ := h
  exact ⟨⟨h.len, Nat.le_trans h.most (by decide), h.sm, ⟨_, _, h.mails⟩, h.m0, h.glen, Nat.le_trans h.gmost (by decide), ⟨_, _, h.gone⟩, h.g0⟩, h.nmz⟩
/-- The same, in blocks from lo on. -/
structure BzL (W : World) (lo : Nat) (ma : Option Addr) (mn mc : Nat) (ga : Option Addr) (gn gc : Nat) (L : List M4) (G : List Int) : Prop where
  bz : Bz W ma mn mc ga gn gc L G
  mlo : ∃ hi, Ms lo hi W ma L
  glo : ∃ hi, Is lo hi W ga G
theorem BzL.far {lo k : Nat} (h : BzL W lo ma mn mc ga gn gc L G) (hg : W.grownBy W' (some k)) (hk : k < lo) : Bz W' ma mn mc ga gn gc L G := by
  obtain ⟨h1, hm⟩ := h.mlo
  obtain ⟨h2, hi⟩ := h.glo
  have hkeep : ∀ hh, hh ≤ W.heap.size → ∀ j, lo ≤ j → j < hh → W'.heap[j]? = W.heap[j]? := fun hh hs j h1 h2 => hg.block j (by omega) (fun e => by simp only [Option.some.injEq] at e; omega)
  exact ⟨h.bz.len, h.bz.most, h.bz.sm, ⟨_, _, hm.same (Nat.le_trans hm.1 hg.size) (hkeep _ hm.1)⟩, h.bz.m0, h.bz.glen, h.bz.gmost, ⟨_, _, hi.same (Nat.le_trans hi.1 hg.size) (hkeep _ hi.1)⟩, h.bz.g0⟩
theorem own_bz {B : Nat} {mv gv : Value} (h : OwB W B mv gv L G) (h1 : L.length ≤ 1048576) (h2 : Sm L) (h3 : G.length ≤ 1048576) : ∃ a c a' c', mv = .slice a L.length c ∧ gv = .slice a' G.length c' ∧ BzL W B a L.length c a' G.length c' L G := by
  obtain ⟨a, c, a', c', rfl, rfl⟩ := h.shape
  exact ⟨a, c, a', c', rfl, rfl, ⟨rfl, h1, h2, ⟨_, _, h.reads.2.2.1⟩, h.none.1, rfl, h3, ⟨_, _, h.reads.2.2.2⟩, h.none.2⟩, ⟨_, h.reads.2.2.1⟩, ⟨_, h.reads.2.2.2⟩⟩
end
theorem sameBox_bz (g : Int) (nm : ByteArray) (t b nx : Int) (ma : Option Addr) (mn mc : Nat) (ga : Option Addr) (gn gc : Nat) (ma' : Option Addr) (mc' : Nat) (ga' : Option Addr) (gc' : Nat) (L : List M4) (G : List Int) (w : World) (h : Bz w ma mn mc ga gn gc L G) (h' : Bz w ma' mn mc' ga' gn gc' L G) :
    Calls Tryz.prog 10 #[.agg #[.int .i64 g, .string nm, .int .i64 t, .int .i64 b, .int .i64 nx, .slice ma mn mc, .slice ga gn gc], .agg #[.int .i64 g, .string nm, .int .i64 t, .int .i64 b, .int .i64 nx, .slice ma' mn mc', .slice ga' gn gc']] w fun e w' => e = .returned (.bool true) ∧ Below w.heap.size w w' := by
  obtain ⟨l1, h1, hm⟩ := h.mails
  obtain ⟨l2, h2, hi⟩ := h.gone
  obtain ⟨l3, h3, hm'⟩ := h'.mails
  obtain ⟨l4, h4, hi'⟩ := h'.gone
  exact sameBox_any l1 h1 l3 h3 l2 h2 l4 h4 g nm t b nx ma mn mc ga gn gc ma' mc' ga' gc' L G w h.len h.most h.sm hm hm' h.glen h.gmost hi hi'
theorem amL_len {g : Int} {nm : ByteArray} {t b nx : Int} {L : List M4} {G : List Int} {gid fl : Int} {tx : ByteArray} {st sb : Int} (h : L.length ≤ 1048576) : (amL (amOk g nm t b nx L G gid fl tx st sb) L (nwm gid nx fl tx st sb)).length ≤ 1048576 := by
  cases hk : amOk g nm t b nx L G gid fl tx st sb with
  | false => rw [amL, if_neg (by decide)]; exact h
  | true =>
    rw [amL, if_pos rfl]
    simp only [amOk, Bool.and_eq_true] at hk
    have := (bx_small hk.2.2.2.2).1
    omega
theorem am_sm (p : Bool) {L : List M4} {gid nx fl : Int} {tx : ByteArray} {st sb : Int} (h : Sm L) (ht : tx.size ≤ 1048576) : Sm (amL p L (nwm gid nx fl tx st sb)) := by
  unfold amL
  split
  · exact sm_snoc h ht
  · exact h
section
variable (g : Int) (nm : ByteArray) (t b nx : Int) (mn gn : Nat) (L : List M4) (G : List Int)
theorem add_two (gid fl : Int) (tx : ByteArray) (st sb : Int) (hnm : nm.size ≤ 1048576) (hl : L.length = mn) (hn : mn ≤ 1048576) (hsm : Sm L) (hgl : G.length = gn) (hgn : gn ≤ 1048576) (htx : tx.size ≤ 1048576) :
    ∃ (p : Bool) (ny : Int) (K : List M4) (H : List Int) (N M : Nat), Hid (p = amOk g nm t b nx L G gid fl tx st sb ∧ ny = amN p nx ∧ K = amL p L (nwm gid nx fl tx st sb) ∧ H = G) ∧ Hid ((K.length = N ∧ N ≤ 1048576 ∧ Sm K) ∧ H.length = M ∧ M ≤ 1048576) ∧ Hid (∀ (ma : Option Addr) (mc : Nat) (ga : Option Addr) (gc : Nat) (W : World), Bz W ma mn mc ga gn gc L G → Calls Tryz.prog 20 #[.agg #[.int .i64 g, .string nm, .int .i64 t, .int .i64 b, .int .i64 nx, .slice ma mn mc, .slice ga gn gc], .int .i64 gid, .int .i64 fl, .string tx, .agg #[.int .i64 st, .int .i64 sb]] W fun e w' => ∃ a c a' c', e = .returned (.tuple #[.agg #[.int .i64 g, .string nm, .int .i64 t, .int .i64 b, .int .i64 ny, .slice a N c, .slice a' M c'], .bool p]) ∧ BzL w' W.heap.size a N c a' M c' K H ∧ Below W.heap.size W w') ∧ Hid (∀ (ma : Option Addr) (mc : Nat) (ga : Option Addr) (gc : Nat) (W : World), Bz W ma mn mc ga gn gc L G → Calls Tryz.prog 9 #[.agg #[.int .i64 g, .string nm, .int .i64 t, .int .i64 b, .int .i64 nx, .slice ma mn mc, .slice ga gn gc], .int .i64 gid, .int .i64 fl, .string tx, .agg #[.int .i64 st, .int .i64 sb]] W fun e w' => ∃ a c a' c', e = .returned (.tuple #[.agg #[.int .i64 g, .string nm, .int .i64 t, .int .i64 b, .int .i64 ny, .slice a N c, .slice a' M c'], .bool p]) ∧ BzL w' W.heap.size a N c a' M c' K H ∧ Below W.heap.size W w') := by
  refine ⟨amOk g nm t b nx L G gid fl tx st sb, amN (amOk g nm t b nx L G gid fl tx st sb) nx, amL (amOk g nm t b nx L G gid fl tx st sb) L (nwm gid nx fl tx st sb), G, _, _, ⟨rfl, rfl, rfl, rfl⟩, ⟨⟨rfl, (amL_len (by omega)), (am_sm _ hsm htx)⟩, rfl, (by omega)⟩, ?_, ?_⟩
  all_goals
    intro ma mc ga gc W hz
    obtain ⟨l1, h1, hm⟩ := hz.mails
    obtain ⟨l2, h2, hi⟩ := hz.gone
    first
      | refine (specAdd_any l1 h1 l2 h2 g nm t b nx ma mn mc ga gn gc L G gid fl tx st sb W hnm hl hn hsm hm hgl hgn hi hz.g0 htx).mono ?_
      | refine (implAdd_any l1 h1 l2 h2 g nm t b nx ma mn mc ga gn gc L G gid fl tx st sb W hnm hl hn hsm hm hz.m0 hgl hgn hi hz.g0 htx).mono ?_
    rintro e w' ⟨mv, gv, rfl, ho, hb⟩
    obtain ⟨a, c, a', c', rfl, rfl, hbz⟩ := own_bz ho (amL_len (by omega)) (am_sm _ hsm htx) (by omega)
    exact ⟨a, c, a', c', rfl, hbz, hb⟩
theorem flag_two (gid n : Int) (st sb : Int) (hnm : nm.size ≤ 1048576) (hl : L.length = mn) (hn : mn ≤ 1048576) (hsm : Sm L) (hgl : G.length = gn) (hgn : gn ≤ 1048576) :
    ∃ (p : Bool) (K : List M4) (H : List Int) (N M : Nat), Hid (p = fmOk g nm t b nx L G gid n st sb ∧ K = fmL p L gid n st sb ∧ H = G) ∧ Hid ((K.length = N ∧ N ≤ 1048576 ∧ Sm K) ∧ H.length = M ∧ M ≤ 1048576) ∧ Hid (∀ (ma : Option Addr) (mc : Nat) (ga : Option Addr) (gc : Nat) (W : World), Bz W ma mn mc ga gn gc L G → Calls Tryz.prog 22 #[.agg #[.int .i64 g, .string nm, .int .i64 t, .int .i64 b, .int .i64 nx, .slice ma mn mc, .slice ga gn gc], .int .i64 gid, .int .i64 n, .agg #[.int .i64 st, .int .i64 sb]] W fun e w' => ∃ a c a' c', e = .returned (.tuple #[.agg #[.int .i64 g, .string nm, .int .i64 t, .int .i64 b, .int .i64 nx, .slice a N c, .slice a' M c'], .bool p]) ∧ BzL w' W.heap.size a N c a' M c' K H ∧ Below W.heap.size W w') ∧ Hid (∀ (ma : Option Addr) (mc : Nat) (ga : Option Addr) (gc : Nat) (W : World), Bz W ma mn mc ga gn gc L G → Calls Tryz.prog 14 #[.agg #[.int .i64 g, .string nm, .int .i64 t, .int .i64 b, .int .i64 nx, .slice ma mn mc, .slice ga gn gc], .int .i64 gid, .int .i64 n, .agg #[.int .i64 st, .int .i64 sb]] W fun e w' => ∃ a c a' c', e = .returned (.tuple #[.agg #[.int .i64 g, .string nm, .int .i64 t, .int .i64 b, .int .i64 nx, .slice a N c, .slice a' M c'], .bool p]) ∧ BzL w' W.heap.size a N c a' M c' K H ∧ Below W.heap.size W w') := by
  refine ⟨fmOk g nm t b nx L G gid n st sb, fmL (fmOk g nm t b nx L G gid n st sb) L gid n st sb, G, _, _, ⟨rfl, rfl, rfl⟩, ⟨⟨rfl, (by rw [fmL_len]; omega), (fm_sm _ hsm)⟩, rfl, (by omega)⟩, ?_, ?_⟩
  all_goals
    intro ma mc ga gc W hz
    obtain ⟨l1, h1, hm⟩ := hz.mails
    obtain ⟨l2, h2, hi⟩ := hz.gone
    first
      | refine (specFlag_any l1 h1 l2 h2 g nm t b nx ma mn mc ga gn gc L G gid n st sb W hnm hl hn hsm hm hgl hgn hi hz.g0).mono ?_
      | refine (implFlag_any l1 h1 l2 h2 g nm t b nx ma mn mc ga gn gc L G gid n st sb W hnm hl hn hsm hm hz.m0 hgl hgn hi hz.g0).mono ?_
    rintro e w' ⟨mv, gv, rfl, ho, hb⟩
    obtain ⟨a, c, a', c', rfl, rfl, hbz⟩ := own_bz ho (by rw [fmL_len]; omega) (fm_sm _ hsm) (by omega)
    exact ⟨a, c, a', c', rfl, hbz, hb⟩
theorem take_two (gid : Int) (hnm : nm.size ≤ 1048576) (hl : L.length = mn) (hn : mn ≤ 1048576) (hsm : Sm L) (hgl : G.length = gn) (hgn : gn ≤ 1048576) :
    ∃ (p : Bool) (K : List M4) (H : List Int) (N M : Nat), Hid (p = tkOk g nm t b nx L G gid ∧ K = tkL p L gid ∧ H = tkG p G gid) ∧ Hid ((K.length = N ∧ N ≤ 1048576 ∧ Sm K) ∧ H.length = M ∧ M ≤ 1048576) ∧ Hid (∀ (ma : Option Addr) (mc : Nat) (ga : Option Addr) (gc : Nat) (W : World), Bz W ma mn mc ga gn gc L G → Calls Tryz.prog 24 #[.agg #[.int .i64 g, .string nm, .int .i64 t, .int .i64 b, .int .i64 nx, .slice ma mn mc, .slice ga gn gc], .int .i64 gid] W fun e w' => ∃ a c a' c', e = .returned (.tuple #[.agg #[.int .i64 g, .string nm, .int .i64 t, .int .i64 b, .int .i64 nx, .slice a N c, .slice a' M c'], .bool p]) ∧ BzL w' W.heap.size a N c a' M c' K H ∧ Below W.heap.size W w') ∧ Hid (∀ (ma : Option Addr) (mc : Nat) (ga : Option Addr) (gc : Nat) (W : World), Bz W ma mn mc ga gn gc L G → Calls Tryz.prog 12 #[.agg #[.int .i64 g, .string nm, .int .i64 t, .int .i64 b, .int .i64 nx, .slice ma mn mc, .slice ga gn gc], .int .i64 gid] W fun e w' => ∃ a c a' c', e = .returned (.tuple #[.agg #[.int .i64 g, .string nm, .int .i64 t, .int .i64 b, .int .i64 nx, .slice a N c, .slice a' M c'], .bool p]) ∧ BzL w' W.heap.size a N c a' M c' K H ∧ Below W.heap.size W w') := by
  refine ⟨tkOk g nm t b nx L G gid, tkL (tkOk g nm t b nx L G gid) L gid, tkG (tkOk g nm t b nx L G gid) G gid, _, _, ⟨rfl, rfl, rfl⟩, ⟨⟨rfl, (Nat.le_trans (tk_sub (tkOk g nm t b nx L G gid) L gid).length_le (by omega)), (sm_sub (tk_sub (tkOk g nm t b nx L G gid) L gid) hsm)⟩, rfl, (tkG_len (by omega))⟩, ?_, ?_⟩
  all_goals
    intro ma mc ga gc W hz
    obtain ⟨l1, h1, hm⟩ := hz.mails
    obtain ⟨l2, h2, hi⟩ := hz.gone
    first
      | refine (specTake_any l1 h1 l2 h2 g nm t b nx ma mn mc ga gn gc L G gid W hnm hl hn hsm hm hgl hgn hi hz.g0).mono ?_
      | refine (implTake_any l1 h1 l2 h2 g nm t b nx ma mn mc ga gn gc L G gid W hnm hl hn hsm hm hz.m0 hgl hgn hi hz.g0).mono ?_
    rintro e w' ⟨mv, gv, rfl, ho, hb⟩
    obtain ⟨a, c, a', c', rfl, rfl, hbz⟩ := own_bz ho (Nat.le_trans (tk_sub (tkOk g nm t b nx L G gid) L gid).length_le (by omega)) (sm_sub (tk_sub (tkOk g nm t b nx L G gid) L gid) hsm) (tkG_len (by omega))
    exact ⟨a, c, a', c', rfl, hbz, hb⟩
end
theorem sg_second (w : World) (o : Obj) (st sb : Int) : Sg ((w.alloc o).alloc (.cells #[.int .i64 st, .int .i64 sb] 25)) (w.heap.size + 1) 25 st sb := by
  have h := Sg.new (w.alloc o) 25 st sb
  have e : (w.alloc o).heap.size = w.heap.size + 1 := by simp
  rw [e] at h
  exact h
theorem box_two (g : Int) (nm : ByteArray) (t b nx : Int) (mn gn : Nat) (L : List M4) (G : List Int) (hnm : nm.size ≤ 1048576) (hl : L.length = mn) (hn : mn ≤ 1048576) (hsm : Sm L) (hgl : G.length = gn) (hgn : gn ≤ 1048576) :
    ∃ p : Bool, Hid (p = bxOk g nm t b nx L G) ∧
      Hid (∀ (ma : Option Addr) (mc : Nat) (ga : Option Addr) (gc : Nat) (w : World), Bz w ma mn mc ga gn gc L G → Calls Tryz.prog 26 #[.agg #[.int .i64 g, .string nm, .int .i64 t, .int .i64 b, .int .i64 nx, .slice ma mn mc, .slice ga gn gc]] w fun e w' => e = .returned (.bool p) ∧ Below w.heap.size w w') ∧
      Hid (∀ (ma : Option Addr) (mc : Nat) (ga : Option Addr) (gc : Nat) (w : World), Bz w ma mn mc ga gn gc L G → Calls Tryz.prog 13 #[.agg #[.int .i64 g, .string nm, .int .i64 t, .int .i64 b, .int .i64 nx, .slice ma mn mc, .slice ga gn gc]] w fun e w' => e = .returned (.bool p) ∧ Below w.heap.size w w') := by
  obtain ⟨p, hp, h1, h2⟩ := box_l g nm t b nx mn gn L G hnm hl hn hsm hgl hgn
  refine ⟨p, hp, fun ma mc ga gc w hz => ?_, fun ma mc ga gc w hz => ?_⟩
  · obtain ⟨l1, e1, hm⟩ := hz.mails
    obtain ⟨l2, e2, hi⟩ := hz.gone
    exact h1.out _ _ _ _ ma mc ga gc w hm hi
  · obtain ⟨l1, e1, hm⟩ := hz.mails
    obtain ⟨l2, e2, hi⟩ := hz.gone
    exact h2.out _ _ _ _ ma mc ga gc w hm hi
theorem at_two (g : Int) (nm : ByteArray) (t b nx : Int) (mn gn : Nat) (L : List M4) (G : List Int) (x : Int) :
    ∃ y : Int, Hid (y = mat x L 0) ∧
      Hid (∀ (ma : Option Addr) (mc : Nat) (ga : Option Addr) (gc : Nat) (w : World), Bz w ma mn mc ga gn gc L G → Calls Tryz.prog 29 #[.agg #[.int .i64 g, .string nm, .int .i64 t, .int .i64 b, .int .i64 nx, .slice ma mn mc, .slice ga gn gc], .int .i64 x] w fun e w' => e = .returned (.int .i64 y) ∧ Below w.heap.size w w') ∧
      Hid (∀ (ma : Option Addr) (mc : Nat) (ga : Option Addr) (gc : Nat) (w : World), Bz w ma mn mc ga gn gc L G → Calls Tryz.prog 11 #[.agg #[.int .i64 g, .string nm, .int .i64 t, .int .i64 b, .int .i64 nx, .slice ma mn mc, .slice ga gn gc], .int .i64 x] w fun e w' => e = .returned (.int .i64 y) ∧ Below w.heap.size w w') := by
  refine ⟨_, rfl, fun ma mc ga gc w hz => ?_, fun ma mc ga gc w hz => ?_⟩
  · obtain ⟨l1, e1, hm⟩ := hz.mails
    exact specMailAt_any l1 e1 g nm t b nx ma mn mc (.slice ga gn gc) L x w hz.len hz.most hm
  · obtain ⟨l1, e1, hm⟩ := hz.mails
    exact implMailAt_any l1 e1 g nm t b nx ma mn mc (.slice ga gn gc) L x w hz.len hz.most hm
end Go.Proofs.YtfmacodnjhegcabGreat

