/- Bany, Bdraw, Btwo, Usa, Ust, Usu, Uta, Utc, MdrawC, MdrawD, MailNum, MailReg. -/
import Derived.Test.YtocfggfccbnbhaaGreatDoorR3
import Derived.Deep.CutRange
namespace Go.Proofs.YtocfggfccbnbhaaGreatDoor
open Go.RowKit Go.ChangeMaps
/-- A box's data as they read: in blocks from lo on, below hi. -/
structure Bg (W : World) (lo hi : Nat) (nm : ByteArray) (ma : Option Addr) (mn mc : Nat) (ga : Option Addr) (gn gc : Nat) (L : List M4) (G : List Int) : Prop where
  nmz : nm.size ≤ 20
  len : L.length = mn
  most : mn ≤ 20
  sm : Sm L
  mails : Ms lo hi W ma L
  m0 : ma = none → mc = 0
  glen : G.length = gn
  gmost : gn ≤ 50
  gone : Is lo hi W ga G
  g0 : ga = none → gc = 0
section
variable {W W' : World} {lo hi : Nat} {nm : ByteArray} {ma : Option Addr} {mn mc : Nat} {ga : Option Addr} {gn gc : Nat} {L : List M4} {G : List Int}
theorem Bg.same (h : Bg W lo hi nm ma mn mc ga gn gc L G) (hs : hi ≤ W'.heap.size) (hk : ∀ k, lo ≤ k → k < hi → W'.heap[k]? = W.heap[k]?) : Bg W' lo hi nm ma mn mc ga gn gc L G :=
  ⟨h.nmz, h.len, h.most, h.sm, h.mails.same hs hk, h.m0, h.glen, h.gmost, h.gone.same hs hk, h.g0⟩
theorem Bg.later (h : Bg W lo hi nm ma mn mc ga gn gc L G) (hb : Below W.heap.size W W') : Bg W' lo hi nm ma mn mc ga gn gc L G :=
  h.same (Nat.le_trans h.mails.1 hb.size) (fun k _ hk => hb.block k (Nat.lt_of_lt_of_le hk h.mails.1))
theorem Bg.far {k : Nat} (h : Bg W lo hi nm ma mn mc ga gn gc L G) (hg : W.grownBy W' (some k)) (hk : k < lo ∨ hi ≤ k) : Bg W' lo hi nm ma mn mc ga gn gc L G :=
  h.same (Nat.le_trans h.mails.1 hg.size) (fun j h1 h2 => hg.block j (Nat.lt_of_lt_of_le h2 h.mails.1) (fun e => by simp only [Option.some.injEq] at e; omega))
theorem Bg.wide {lo' hi' : Nat} (h : Bg W lo hi nm ma mn mc ga gn gc L G) (h1 : lo' ≤ lo) (h2 : hi ≤ hi') (h3 : hi' ≤ W.heap.size) : Bg W lo' hi' nm ma mn mc ga gn gc L G :=
  ⟨h.nmz, h.len, h.most, h.sm, h.mails.wide h1 h2 h3, h.m0, h.glen, h.gmost, h.gone.wide h1 h2 h3, h.g0⟩
end
theorem gr_new {w W W' : World} {cb : Nat} {r : Option Nat} (h : w.grownBy W (some cb)) (hg : W.grownBy W' r) (hr : ∀ j, r = some j → w.heap.size ≤ j) : w.grownBy W' (some cb) :=
  ⟨hg.os.trans h.os, hg.tape.trans h.tape, hg.output.trans h.output, Nat.le_trans h.size hg.size, fun i hi hne => (hg.block i (Nat.lt_of_lt_of_le hi h.size) (fun e => by have := hr i e.symm; omega)).trans (h.block i hi hne)⟩
/-- Behind the copy: the answer's block, the box, its data, the cursor. -/
structure As (w W : World) (cb : Nat) (ao : Option Addr) (n cap kb hi : Nat) (g : Int) (nm : ByteArray) (t b nx : Int) (ma : Option Addr) (mn mc : Nat) (ga : Option Addr) (gn gc : Nat) (L : List M4) (G : List Int) : Prop where
  res : Bx W w.heap.size 38 0 ⟨#[]⟩ 0 0 0 (.slice none 0 0) (.slice none 0 0)
  box : Bx W kb 38 g nm t b nx (.slice ma mn mc) (.slice ga gn gc)
  bg : Bg W (w.heap.size + 1) hi nm ma mn mc ga gn gc L G
  cur : Cur W cb ao n cap
  gr : w.grownBy W (some cb)
  lo : w.heap.size < kb
  hi : cb < w.heap.size
section
variable {w W W' : World} {cb : Nat} {ao : Option Addr} {n cap kb hi : Nat} {g : Int} {nm : ByteArray} {t b nx : Int} {ma : Option Addr} {mn mc : Nat} {ga : Option Addr} {gn gc : Nat} {L : List M4} {G : List Int}
theorem As.drew (h : As w W cb ao n cap kb hi g nm t b nx ma mn mc ga gn gc L G) : As w W.drew cb ao n cap kb hi g nm t b nx ma mn mc ga gn gc L G := ⟨h.res, h.box, h.bg.later (bdr (bre _)), h.cur, gdr h.gr, h.lo, h.hi⟩
theorem As.later (h : As w W cb ao n cap kb hi g nm t b nx ma mn mc ga gn gc L G) (hb : Below W.heap.size W W') : As w W' cb ao n cap kb hi g nm t b nx ma mn mc ga gn gc L G :=
  ⟨h.res.later hb, h.box.later hb, h.bg.later hb, h.cur.later hb h.cur.lt, only_add h.gr (hb.mono h.gr.size), h.lo, h.hi⟩
end
/-- A row of mails with flags of whatever make, as it reads. -/
theorem ms_row {W : World} {B lo : Nat} {v : Value} {Z : List Z5} (row : W.ownsRow B 86 4 v Z.length (zc Z)) (hlo : lo ≤ B) (hf : ∀ z ∈ Z, ∃ a c, z.2.2.1 = .slice a z.2.2.2.1.length c ∧ Rb lo W.heap.size W a z.2.2.2.1 ∧ (a = none → c = 0)) :
    ∃ a c, v = .slice a Z.length c ∧ (a = none → c = 0) ∧ Ms lo W.heap.size W a (Z.map md) := by
  rcases row.2 with ⟨h1, h2⟩ | ⟨g, cap, cur, h1, h2, h3, h4, h5, h6, h7⟩
  · refine ⟨none, 0, by rw [h1, h2], fun _ => rfl, Nat.le_refl _, fun i hi => ?_⟩
    rw [List.length_map] at hi
    omega
  · subst h1
    refine ⟨_, _, rfl, fun e => by simp at e, Nat.le_refl _, fun i hi => ?_⟩
    rw [List.length_map] at hi
    have e := zc_at Z i hi
    obtain ⟨fa, fc, hf', hr, h0⟩ := hf Z[i] (List.getElem_mem hi)
    rw [hf'] at e
    refine ⟨g, 0, fa, fc, rfl, by omega, (Array.getElem?_eq_some_iff.1 h3).1, ?_, ?_, h0⟩
    · simp only [Nat.zero_add, List.getElem_map]
      exact ⟨(row.cellAt _ (by omega)).trans e.1, (row.cellAt _ (by omega)).trans e.2.1, (row.cellAt _ (by omega)).trans e.2.2.1, (row.cellAt _ (by omega)).trans e.2.2.2⟩
    · simpa [md] using hr
theorem Dl.rb {W : World} {B n c : Nat} {a : Option Addr} {l : List R3} (h : Dl W B (.slice a n c) l) : n = l.length ∧ l.length ≤ 4 ∧ Rb B W.heap.size W a l ∧ (a = none → c = 0) := by
  obtain ⟨a', c', h1, h2, h3, h4, h5, h6⟩ := h
  simp only [Value.slice.injEq] at h1
  obtain ⟨rfl, rfl, rfl⟩ := h1
  refine ⟨rfl, h2, fun hn => ?_, h4⟩
  obtain ⟨k, o, e1, e2, e3⟩ := h5 hn
  subst e1
  exact ⟨k, o, rfl, h6 _ rfl, e2, e3⟩
theorem own_at {W W' : World} {B e size n : Nat} {x : Value} {xs : List Value} (ho : W.ownsRow B e size x n xs) (hk : ∀ j, x.ownBlock = some j → W'.heap[j]? = W.heap[j]?) : W'.ownsRow B e size x n xs := by
  refine ⟨ho.1, ho.2.imp id ?_⟩
  rintro ⟨g, cap, cur, h1, h2, h3, h4⟩
  exact ⟨g, cap, cur, h1, h2, (hk g (by rw [h1]; rfl)).trans h3, h4⟩
/-- A box whose row of mails has one more, of whatever make. -/
theorem As.more {w w4 W W' : World} {cb : Nat} {ao : Option Addr} {n cap kb hi B lo : Nat} {g : Int} {nm : ByteArray} {t b nx : Int} {ma : Option Addr} {mn mc : Nat} {ga : Option Addr} {gn gc : Nat} {L : List M4} {G : List Int} {a7 : Option Addr} {n7 c7 : Nat} {z : Z5} {Z : List Z5} (h : As w W cb ao n cap kb hi g nm t b nx ma mn mc ga gn gc L G) (h4 : w4.heap.size = kb) (hw4 : w4.grownBy W (some cb)) (hZ : Z.map md = L) (hz4 : OwZ w4 B (.slice ma mn mc) Z) (hi4 : OwI w4 B (.slice ga gn gc) G) (hdj : Dj (.slice ga gn gc) (.slice ma mn mc)) (hB : w.heap.size < B)
    (hz : Dl W lo z.2.2.1 z.2.2.2.1) (hlo : kb < lo) (hzt : z.2.2.2.2.size ≤ 100) (hm : mn ≤ 10) (row : W'.ownsRow B 86 4 (.slice a7 n7 c7) (Z ++ [z]).length (zc (Z ++ [z]))) (hg : (W.alloc (.cells #[.int .i64 z.1, .int .i64 z.2.1, z.2.2.1, .string z.2.2.2.2] 86)).grownBy W' (Value.slice ma mn mc).ownBlock) (hl : ∀ j, (Value.slice a7 n7 c7).ownBlock = some j → (Value.slice ma mn mc).ownBlock = some j ∨ W.heap.size < j) :
    As w (W'.setCell ⟨kb, 5, none⟩ (.slice a7 n7 c7)) cb ao n cap kb (W'.setCell ⟨kb, 5, none⟩ (.slice a7 n7 c7)).heap.size g nm t b nx a7 n7 c7 ga gn gc (L ++ [md z]) G := by
  have h1 := h.lo
  have h2 := h.hi
  have h3 := h.box.lt
  have hown := hz4.grown hw4 (by omega)
  have hoi := OwI.grown hi4 hw4 (by omega)
  have hlt : ∀ j, (Value.slice ma mn mc).ownBlock = some j → j < kb := fun j hj => by have := (hz4.row.lt j hj).2; omega
  have hlg : ∀ j, (Value.slice ga gn gc).ownBlock = some j → j < kb := fun j hj => by have := (hi4.lt j hj).2; omega
  have hblk : ∀ j, j < W.heap.size → (Value.slice ma mn mc).ownBlock ≠ some j → W'.heap[j]? = W.heap[j]? := fun j hj hne => (hg.block j (by simp; omega) (fun e => hne e.symm)).trans (Below.heap_alloc W _ j hj)
  have hblk2 : ∀ j, j < W.heap.size → (Value.slice ma mn mc).ownBlock ≠ some j → j ≠ kb → (W'.setCell ⟨kb, 5, none⟩ (.slice a7 n7 c7)).heap[j]? = W.heap[j]? := fun j hj hne hjk => (heap_setCell_other W' ⟨kb, 5, none⟩ j _ hjk).trans (hblk j hj hne)
  have hsz : (W'.setCell ⟨kb, 5, none⟩ (.slice a7 n7 c7)).heap.size = W'.heap.size := by simp [World.setCell]
  have hszW : W.heap.size < W'.heap.size := by have := hg.size; simp at this; omega
  have hobm : ∀ j, (Value.slice ma mn mc).ownBlock = some j → B ≤ j := fun j hj => (hown.row.lt j hj).1
  have hbox' : Bx W' kb 38 g nm t b nx (.slice ma mn mc) (.slice ga gn gc) := (hblk kb h3 (fun e => by have := hlt kb e; omega)).trans h.box
  have hset : W'.grownBy (W'.setCell ⟨kb, 5, none⟩ (.slice a7 n7 c7)) (some kb) := only_set
  have hrow := own_at (W' := W'.setCell ⟨kb, 5, none⟩ (.slice a7 n7 c7)) row (fun j hj => heap_setCell_other W' ⟨kb, 5, none⟩ j _ (fun e => by
    simp only at e
    rcases hl j hj with hj | hj
    · have := hlt j hj; omega
    · omega))
  have hgo : OwI (W'.setCell ⟨kb, 5, none⟩ (.slice a7 n7 c7)) B (.slice ga gn gc) G := own_at hoi (fun j hj => hblk2 j (hoi.lt j hj).2 (fun e => hdj j hj e) (fun e => by have := hlg j hj; omega))
  have hzl : ∃ a c, z.2.2.1 = .slice a z.2.2.2.1.length c ∧ Rb lo W.heap.size W a z.2.2.2.1 ∧ (a = none → c = 0) ∧ z.2.2.2.1.length ≤ 4 := by
    obtain ⟨a', c', e1, e2⟩ := hz
    have := Dl.rb (W := W) (B := lo) (a := a') (n := z.2.2.2.1.length) (c := c') (l := z.2.2.2.1) ⟨a', c', rfl, e2⟩
    exact ⟨a', c', e1, this.2.2.1, this.2.2.2, this.2.1⟩
  obtain ⟨za, zc', hzs, q3, q4, q5⟩ := hzl
  obtain ⟨a, c, e1, e2, e3⟩ := ms_row (lo := w.heap.size + 1) hrow (by omega) (fun y hy => by
    rcases List.mem_append.1 hy with hy | hy
    · have ho : Ow (W'.setCell ⟨kb, 5, none⟩ (.slice a7 n7 c7)) B y.2.2.1 y.2.2.2.1 := own_at (hown.each y hy) (fun j hj => hblk2 j ((hown.each y hy).lt j hj).2 (fun e => hown.off y hy j e hj) (fun e => by have := ((hz4.each y hy).lt j hj).2; omega))
      obtain ⟨a, c, e1, e2, e3⟩ := Ow.rb ho
      exact ⟨a, c, e1, e2.wide (by omega) (Nat.le_refl _), e3⟩
    · simp at hy
      subst hy
      refine ⟨_, _, hzs, ?_, q4⟩
      refine Rb.wide (lo := lo) (hi := W.heap.size) ?_ (by omega) (by omega)
      exact q3.same (fun k hk1 hk2 => hblk2 k hk2 (fun e => by have := hlt k e; omega) (by omega)))
  simp only [Value.slice.injEq] at e1
  obtain ⟨rfl, rfl, rfl⟩ := e1
  have hlen : Z.length = mn := by rw [← h.bg.len, ← hZ, List.length_map]
  have hlen2 : (Z ++ [z]).length = mn + 1 := by rw [List.length_append, hlen]; rfl
  have hmap : (Z ++ [z]).map md = L ++ [md z] := by rw [List.map_append, hZ]; rfl
  rw [hmap] at e3
  refine ⟨?_, hbox'.s5 _, ⟨h.bg.nmz, by rw [← hmap, List.length_map], by omega, ?_, e3, e2, h.bg.glen, h.bg.gmost, ((OwI.is hgo).2).wide (by omega) (Nat.le_refl _) (Nat.le_refl _), h.bg.g0⟩, ?_, ?_, h1, h2⟩
  · exact Bx.far ((hblk w.heap.size h.res.lt (fun e => by have := hobm _ e; omega)).trans h.res) hset (by omega)
  · intro m hmm
    rcases List.mem_append.1 hmm with hmm | hmm
    · exact h.bg.sm m hmm
    · simp at hmm
      subst hmm
      exact ⟨by show z.2.2.2.1.length ≤ _; omega, by show z.2.2.2.2.size ≤ _; omega⟩
  · obtain ⟨i, x, p1, p2⟩ := h.cur
    exact ⟨i, x, p1, (hblk2 cb h.cur.lt (fun e => by have := hobm _ e; omega) (by omega)).trans p2⟩
  · refine gr_new (gr_new (gal h.gr _) hg (fun j e => ?_)) hset (fun j e => by simp only [Option.some.injEq] at e; omega)
    have := hobm j e
    omega
end Go.Proofs.YtocfggfccbnbhaaGreatDoor

namespace Go.Proofs.YtocfggfccbnbhaaGreatDoor
open Go.RowKit Go.ChangeMaps
theorem Bg.set7 {W : World} {lo hi k : Nat} {nm : ByteArray} {ma : Option Addr} {mn mc : Nat} {ga : Option Addr} {gn gc : Nat} {L : List M4} {G : List Int} (h : Bg W lo hi nm ma mn mc ga gn gc L G) (hk : k < lo) (g' : Int) (nm' : ByteArray) (t' b' nx' : Int) (v v' : Value) : Bg (Go.Proofs.YtocfggfccbnbhaaGreatDoor.set7 W k g' nm' t' b' nx' v v') lo hi nm ma mn mc ga gn gc L G :=
  h.far (set7_grown W k g' nm' t' b' nx' v v') (.inl hk)
end Go.Proofs.YtocfggfccbnbhaaGreatDoor

namespace Go.Proofs.YtocfggfccbnbhaaGreatDoor
open Go.RowKit Go.ChangeMaps
/-- A box's lists as they read. -/
structure Bz (W : World) (ma : Option Addr) (mn mc : Nat) (ga : Option Addr) (gn gc : Nat) (L : List M4) (G : List Int) : Prop where
  len : L.length = mn
  most : mn ≤ 1048576
  sm : Sm L
  mails : ∃ lo hi, Ms lo hi W ma L
  m0 : ma = none → mc = 0
  glen : G.length = gn
  gmost : gn ≤ 1048576
  gone : ∃ lo hi, Is lo hi W ga G
  g0 : ga = none → gc = 0
section
variable {W W' : World} {ma : Option Addr} {mn mc : Nat} {ga : Option Addr} {gn gc : Nat} {L : List M4} {G : List Int}
theorem Bz.later (h : Bz W ma mn mc ga gn gc L G) (hb : Below W.heap.size W W') : Bz W' ma mn mc ga gn gc L G := by
  obtain ⟨l1, h1, hm⟩ := h.mails
  obtain ⟨l2, h2, hi⟩ := h.gone
  exact ⟨h.len, h.most, h.sm, ⟨l1, h1, hm.later hb⟩, h.m0, h.glen, h.gmost, ⟨l2, h2, hi.later hb⟩, h.g0⟩
/-- The same, in blocks from lo on. -/
structure BzL (W : World) (lo : Nat) (ma : Option Addr) (mn mc : Nat) (ga : Option Addr) (gn gc : Nat) (L : List M4) (G : List Int) : Prop where
  bz : Bz W ma mn mc ga gn gc L G
  mlo : ∃ hi, Ms lo hi W ma L
  glo : ∃ hi, Is lo hi W ga G
theorem BzL.far {lo k : Nat} (h : BzL W lo ma mn mc ga gn gc L G) (hg : W.grownBy W' (some k)) (hk : k < lo) : Bz W' ma mn mc ga gn gc L G := by
  obtain ⟨h1, hm⟩ := h.mlo
  obtain ⟨h2, hi⟩ := h.glo
  have hkeep : ∀ hh, hh ≤ W.heap.size → ∀ j, lo ≤ j → j < hh → W'.heap[j]? = W.heap[j]? := fun hh hs j h1 h2 => hg.block j (by omega) (fun e => by simp only [Option.some.injEq] at e; omega)
  exact ⟨h.bz.len, h.bz.most, h.bz.sm, ⟨_, _, hm.same (Nat.le_trans hm.1 hg.size) (hkeep _ hm.1)⟩, h.bz.m0, h.bz.glen, h.bz.gmost, ⟨_, _, hi.same (Nat.le_trans hi.1 hg.size) (hkeep _ hi.1)⟩, h.bz.g0⟩
theorem own_bz {B : Nat} {mv gv : Value} (h : OwB W B mv gv L G) (h1 : L.length ≤ 1048576) (h2 : Sm L) (h3 : G.length ≤ 1048576) : ∃ a c a' c', mv = .slice a L.length c ∧ gv = .slice a' G.length c' ∧ BzL W B a L.length c a' G.length c' L G := by
  obtain ⟨a, c, a', c', rfl, rfl⟩ := h.shape
  exact ⟨a, c, a', c', rfl, rfl, ⟨rfl, h1, h2, ⟨_, _, h.reads.2.2.1⟩, h.none.1, rfl, h3, ⟨_, _, h.reads.2.2.2⟩, h.none.2⟩, ⟨_, h.reads.2.2.1⟩, ⟨_, h.reads.2.2.2⟩⟩
end
section
variable (g : Int) (nm : ByteArray) (t b nx : Int) (mn gn : Nat) (L : List M4) (G : List Int)
end
end Go.Proofs.YtocfggfccbnbhaaGreatDoor

namespace Go.Proofs.YtocfggfccbnbhaaGreatDoor
open Go.RowKit Go.ChangeMaps
theorem inR.here (i : Nat) : inR (i + 1) (100 + (i : Int)) := ⟨by omega, by omega⟩
/-- A store behind i steps. -/
structure R7 (i : Nat) (y tm : Int) (S : List X7) (G : List Int) : Prop where
  ok : sOk y tm S G = true
  time : tm ≤ (i : Int)
  most : G.length ≤ i
  gon : ∀ g ∈ G, inR i g
  box : ∀ x ∈ S, B7 i x
theorem R7.mono {i j : Nat} {y tm : Int} {S : List X7} {G : List Int} (h : R7 i y tm S G) (hj : i ≤ j) : R7 j y tm S G :=
  ⟨h.ok, by have := h.time; omega, by have := h.most; omega, fun g hg => (h.gon g hg).mono hj, fun x hx => (h.box x hx).mono hj⟩
theorem R7.start {y : Int} (h1 : 1 ≤ y) (h2 : y ≤ 2) : R7 0 y 0 [] [] :=
  ⟨sOk_iff.2 ⟨⟨h1, h2⟩, by decide, by decide, by decide, by decide, (fun x hx => by cases hx), List.Pairwise.nil, List.Pairwise.nil⟩, by decide, by decide, (fun x hx => by cases hx), (fun x hx => by cases hx)⟩
theorem R7.pick {i : Nat} {y tm tm1 : Int} {S S1 : List X7} {G G1 : List Int} {p : Bool} (h : R7 i y tm S G) (h1 : p = true → R7 (i + 1) y tm1 S1 G1) : R7 (i + 1) y (pik p tm1 tm) (pik p S1 S) (pik p G1 G) := by
  cases p with
  | false => exact h.mono (Nat.le_succ i)
  | true => exact h1 rfl
theorem bxx_sx {x : X7} (h : bxx x = true) : Sx1 x := by
  obtain ⟨g, nm, t, b, nx, L, G⟩ := x
  have h' : bxOk g nm t b nx L G = true := h
  obtain ⟨h1, h2, h3⟩ := bx_small h'
  have hn := (bx_iff.1 h').2.1
  simp only [nmOk, Bool.and_eq_true, decide_eq_true_eq] at hn
  exact ⟨by show nm.size ≤ _; omega, by show L.length ≤ _; omega, fun m hm => ⟨by have := (h3 m hm).1; omega, by have := (h3 m hm).2; omega⟩, by show G.length ≤ _; omega⟩
theorem sOk_sb {y tm : Int} {S : List X7} {G : List Int} (h : sOk y tm S G = true) : S.length ≤ 5 ∧ Sb S ∧ G.length ≤ 20 ∧ 0 ≤ tm ∧ tm ≤ 100000 := by
  obtain ⟨_, hb, h1, _, _, hx, _⟩ := sOk_iff.1 h
  exact ⟨h1, fun x hx' => bxx_sx (hx x hx').1, (sOk_gone h).2, hb.1, hb.2⟩
theorem mem_chB {S : List X7} {box : Int} {ok : X7 → Bool} {f : X7 → X7} {z : X7} (h : z ∈ (chB S box ok f).2) : z ∈ S ∨ ∃ x ∈ S, z = f x := by
  rcases fidx_cases (isG box) S 0 with hneg | ⟨i, hi, hiz, _⟩
  · rw [chB_no hneg] at h; exact .inl h
  · rw [Nat.zero_add] at hiz
    rw [chB_at hiz hi rfl] at h
    rcases mem_set h with h | h
    · exact .inl h
    · exact .inr ⟨S[i], List.getElem_mem hi, h⟩
section
variable {i : Nat} {y tm : Int} {S : List X7} {G : List Int} {p : Bool}
theorem R7.make {nm : ByteArray} (h : R7 i y tm S G) (hn : nm ∈ nm5) (hp : (sOk y tm S G && ((!kno (100 + (i : Int)) S G && !(S.any (isN nm))) && sOk y (tm + 1) (insX (100 + (i : Int), nm, tm + 1, y, 1, [], []) S) G)) = p) :
    R7 (i + 1) y (pik p (tm + 1) tm) (pik p (insX (100 + (i : Int), nm, tm + 1, y, 1, [], []) S) S) (pik p G G) := by
  refine h.pick (fun e => ?_)
  rw [e] at hp
  simp only [Bool.and_eq_true] at hp
  refine ⟨hp.2.2, by have := h.time; omega, by have := h.most; omega, fun g hg => (h.gon g hg).mono (Nat.le_succ i), fun x hx => ?_⟩
  unfold insX at hx
  rcases List.mem_append.1 hx with hx | hx
  · exact (h.box x (List.mem_of_mem_take hx)).mono (Nat.le_succ i)
  · rcases List.mem_cons.1 hx with rfl | hx
    · exact ⟨inR.here i, hn, (fun m hm => by cases hm), (fun m hm => by cases hm)⟩
    · exact (h.box x (List.mem_of_mem_drop hx)).mono (Nat.le_succ i)
theorem R7.put {box fl : Int} {tx : ByteArray} (h : R7 i y tm S G) (hp : (sOk y tm S G && ((!kno (100 + (i : Int)) S G && (chB S box (pmK y tm (100 + (i : Int)) fl tx) (pmF y tm (100 + (i : Int)) fl tx)).1) && sOk y (tm + 1) (chB S box (pmK y tm (100 + (i : Int)) fl tx) (pmF y tm (100 + (i : Int)) fl tx)).2 G)) = p) :
    R7 (i + 1) y (pik p (tm + 1) tm) (pik p (chB S box (pmK y tm (100 + (i : Int)) fl tx) (pmF y tm (100 + (i : Int)) fl tx)).2 S) (pik p G G) := by
  refine h.pick (fun e => ?_)
  rw [e] at hp
  simp only [Bool.and_eq_true] at hp
  refine ⟨hp.2.2, by have := h.time; omega, by have := h.most; omega, fun g hg => (h.gon g hg).mono (Nat.le_succ i), fun x hx => ?_⟩
  rcases mem_chB hx with hx | ⟨x', hx', rfl⟩
  · exact (h.box x hx).mono (Nat.le_succ i)
  · have hb := (h.box x' hx').mono (Nat.le_succ i)
    refine ⟨hb.gid, hb.nam, fun m hm => ?_, hb.gon⟩
    simp only [pmF, amL] at hm
    split at hm
    · rcases List.mem_append.1 hm with hm | hm
      · exact hb.mls m hm
      · simp only [List.mem_cons, List.not_mem_nil, or_false] at hm
        rw [hm]
        exact inR.here i
    · exact hb.mls m hm
theorem R7.mark {box gid fl : Int} (h : R7 i y tm S G) (hp : (sOk y tm S G && ((chB S box (mmK y tm gid fl) (mmF y tm gid fl)).1 && sOk y (tm + 1) (chB S box (mmK y tm gid fl) (mmF y tm gid fl)).2 G)) = p) :
    R7 (i + 1) y (pik p (tm + 1) tm) (pik p (chB S box (mmK y tm gid fl) (mmF y tm gid fl)).2 S) (pik p G G) := by
  refine h.pick (fun e => ?_)
  rw [e] at hp
  simp only [Bool.and_eq_true] at hp
  refine ⟨hp.2.2, by have := h.time; omega, by have := h.most; omega, fun g hg => (h.gon g hg).mono (Nat.le_succ i), fun x hx => ?_⟩
  rcases mem_chB hx with hx | ⟨x', hx', rfl⟩
  · exact (h.box x hx).mono (Nat.le_succ i)
  · have hb := (h.box x' hx').mono (Nat.le_succ i)
    refine ⟨hb.gid, hb.nam, fun m hm => ?_, hb.gon⟩
    simp only [mmF, fmL] at hm
    split at hm
    · obtain ⟨m', hm', rfl⟩ := List.mem_map.1 hm
      have := hb.mls m' hm'
      split
      · exact this
      · exact this
    · exact hb.mls m hm
end
end Go.Proofs.YtocfggfccbnbhaaGreatDoor

namespace Go.Proofs.YtocfggfccbnbhaaGreatDoor
open Go.RowKit Go.ChangeMaps
/-- A store's lists as they read: in blocks from lo on, below hi. -/
structure Tg (W : World) (lo hi : Nat) (ba : Option Addr) (bn bc : Nat) (ga : Option Addr) (gn gc : Nat) (S : List X7) (G : List Int) : Prop where
  len : S.length = bn
  most : bn ≤ 1048576
  sb : Sb S
  boxes : Bs lo hi W ba S
  b0 : ba = none → bc = 0
  glen : G.length = gn
  gmost : gn ≤ 1048576
  gone : Is lo hi W ga G
  g0 : ga = none → gc = 0
section
variable {W W' : World} {lo hi : Nat} {ba : Option Addr} {bn bc : Nat} {ga : Option Addr} {gn gc : Nat} {S : List X7} {G : List Int}
theorem Tg.same (h : Tg W lo hi ba bn bc ga gn gc S G) (hs : hi ≤ W'.heap.size) (hk : ∀ k, lo ≤ k → k < hi → W'.heap[k]? = W.heap[k]?) : Tg W' lo hi ba bn bc ga gn gc S G :=
  ⟨h.len, h.most, h.sb, h.boxes.same hs hk, h.b0, h.glen, h.gmost, h.gone.same hs hk, h.g0⟩
theorem Tg.later (h : Tg W lo hi ba bn bc ga gn gc S G) (hb : Below W.heap.size W W') : Tg W' lo hi ba bn bc ga gn gc S G :=
  h.same (Nat.le_trans h.boxes.1 hb.size) (fun k _ hk => hb.block k (Nat.lt_of_lt_of_le hk h.boxes.1))
theorem Tg.far {k : Nat} (h : Tg W lo hi ba bn bc ga gn gc S G) (hg : W.grownBy W' (some k)) (hk : k < lo ∨ hi ≤ k) : Tg W' lo hi ba bn bc ga gn gc S G :=
  h.same (Nat.le_trans h.boxes.1 hg.size) (fun j h1 h2 => hg.block j (Nat.lt_of_lt_of_le h2 h.boxes.1) (fun e => by simp only [Option.some.injEq] at e; omega))
theorem Tg.wide {lo' hi' : Nat} (h : Tg W lo hi ba bn bc ga gn gc S G) (h1 : lo' ≤ lo) (h2 : hi ≤ hi') (h3 : hi' ≤ W.heap.size) : Tg W lo' hi' ba bn bc ga gn gc S G :=
  ⟨h.len, h.most, h.sb, h.boxes.wide h1 h2 h3, h.b0, h.glen, h.gmost, h.gone.wid h1 h2 h3, h.g0⟩
theorem Tg.top (h : Tg W lo hi ba bn bc ga gn gc S G) : hi ≤ W.heap.size := h.boxes.1
theorem OwT.tg {B : Nat} (h : OwT W B (.slice ba bn bc) (.slice ga gn gc) S G) (h1 : S.length ≤ 1048576) (h2 : Sb S) (h3 : G.length ≤ 1048576) : Tg W B W.heap.size ba bn bc ga gn gc S G := by
  obtain ⟨e1, e2, r1, r2⟩ := h.reads
  obtain ⟨Y, _, o1, o2, _⟩ := h.own
  refine ⟨e1.symm, by omega, h2, r1, o1.nil0, e2.symm, by omega, r2, fun e => ?_⟩
  subst e
  obtain ⟨a9, c9, e9, e8⟩ := o2.shape
  simp only [Value.slice.injEq] at e9
  rw [e9.2.2]
  exact e8 e9.1.symm
theorem Tg.nil (W : World) (lo : Nat) : Tg W lo W.heap.size none 0 0 none 0 0 [] [] :=
  ⟨rfl, by omega, (fun x hx => by cases hx), ⟨Nat.le_refl _, fun i hi => by simp at hi⟩, fun _ => rfl, rfl, by omega, ⟨Nat.le_refl _, fun i hi => by simp at hi⟩, fun _ => rfl⟩
end
end Go.Proofs.YtocfggfccbnbhaaGreatDoor

namespace Go.Proofs.YtocfggfccbnbhaaGreatDoor
open Go.RowKit Go.ChangeMaps
section
variable {w W W' : World} {cb : Nat} {ao : Option Addr} {n cap hi i : Nat} {y tm : Int} {ba : Option Addr} {bn bc : Nat} {ga : Option Addr} {gn gc : Nat} {S : List X7} {G : List Int}
end
/-- One of the boxes, in a block of its own. -/
structure Q7 (W : World) (cb kx : Nat) (g : Int) (ma : Option Addr) (mn mc : Nat) (L : List M4) : Prop where
  box : ∃ nm t b nx gv, Bx W kx 38 g nm t b nx (.slice ma mn mc) gv
  len : L.length = mn
  most : mn ≤ 1048576
  mails : ∃ lo hi, Ms lo hi W ma L ∧ (kx < lo ∨ hi ≤ kx) ∧ cb < lo
  ne : kx ≠ cb
end Go.Proofs.YtocfggfccbnbhaaGreatDoor

namespace Go.Proofs.YtocfggfccbnbhaaGreatDoor
open Go.RowKit Go.ChangeMaps
/-- Behind the copy: the answer's block, the store, its lists, the cursor. -/
structure V7 (w W : World) (cb : Nat) (ao : Option Addr) (n cap kb hi : Nat) (y tm : Int) (ba : Option Addr) (bn bc : Nat) (ga : Option Addr) (gn gc : Nat) (S : List X7) (G : List Int) : Prop where
  res : Sx W w.heap.size 27 0 0 (.slice none 0 0) (.slice none 0 0)
  box : Sx W kb 27 y tm (.slice ba bn bc) (.slice ga gn gc)
  tg : Tg W (w.heap.size + 1) hi ba bn bc ga gn gc S G
  cur : Cur W cb ao n cap
  gr : w.grownBy W (some cb)
  lo : w.heap.size < kb
  hl : cb < w.heap.size
  tmb : -1 ≤ tm ∧ tm ≤ 100001
section
variable {w W W' : World} {cb : Nat} {ao : Option Addr} {n cap kb hi : Nat} {y tm : Int} {ba : Option Addr} {bn bc : Nat} {ga : Option Addr} {gn gc : Nat} {S : List X7} {G : List Int}
theorem V7.drew (h : V7 w W cb ao n cap kb hi y tm ba bn bc ga gn gc S G) : V7 w W.drew cb ao n cap kb hi y tm ba bn bc ga gn gc S G := ⟨h.res, h.box, h.tg.later (bdr (bre _)), h.cur, gdr h.gr, h.lo, h.hl, h.tmb⟩
theorem V7.push (h : V7 w W cb ao n cap kb hi y tm ba bn bc ga gn gc S G) (hb : Below W.heap.size W W') : V7 w W' cb ao n cap kb hi y tm ba bn bc ga gn gc S G :=
  ⟨h.res.later hb, h.box.later hb, h.tg.later hb, h.cur.later hb h.cur.lt, only_add h.gr (hb.mono h.gr.size), h.lo, h.hl, h.tmb⟩
end
section
variable {w v W W' : World} {cb : Nat} {ao : Option Addr} {n cap kb hi B : Nat} {y tm : Int} {ba : Option Addr} {bn bc : Nat} {ga : Option Addr} {gn gc : Nat} {S : List X7} {G : List Int}
end
end Go.Proofs.YtocfggfccbnbhaaGreatDoor

namespace Go.Proofs.YtocfggfccbnbhaaGreatDoor
open Go.RowKit Go.ChangeMaps
def Tz (W : World) (ba : Option Addr) (bn bc : Nat) (ga : Option Addr) (gn gc : Nat) (S : List X7) (G : List Int) : Prop := ∃ lo hi, Tg W lo hi ba bn bc ga gn gc S G
section
variable {W W' : World} {lo hi : Nat} {ba : Option Addr} {bn bc : Nat} {ga : Option Addr} {gn gc : Nat} {S : List X7} {G : List Int}
theorem Tg.tz (h : Tg W lo hi ba bn bc ga gn gc S G) : Tz W ba bn bc ga gn gc S G := ⟨lo, hi, h⟩
theorem Tz.later (h : Tz W ba bn bc ga gn gc S G) (hb : Below W.heap.size W W') : Tz W' ba bn bc ga gn gc S G := by
  obtain ⟨lo, hi, h⟩ := h
  exact ⟨lo, hi, h.later hb⟩
theorem Tz.len (h : Tz W ba bn bc ga gn gc S G) : S.length = bn := by obtain ⟨_, _, h⟩ := h; exact h.len
theorem Tz.most (h : Tz W ba bn bc ga gn gc S G) : bn ≤ 1048576 := by obtain ⟨_, _, h⟩ := h; exact h.most
theorem Tz.sb (h : Tz W ba bn bc ga gn gc S G) : Sb S := by obtain ⟨_, _, h⟩ := h; exact h.sb
theorem Tz.glen (h : Tz W ba bn bc ga gn gc S G) : G.length = gn := by obtain ⟨_, _, h⟩ := h; exact h.glen
theorem Tz.gmost (h : Tz W ba bn bc ga gn gc S G) : gn ≤ 1048576 := by obtain ⟨_, _, h⟩ := h; exact h.gmost
end
end Go.Proofs.YtocfggfccbnbhaaGreatDoor

namespace Go.Proofs.YtocfggfccbnbhaaGreatDoor
open Go.RowKit
theorem Cur.below {w w' : World} {B cb n cap : Nat} {ao : Option Addr} (h : Cur w cb ao n cap) (hb : Below B w w') (hB : cb < B) : Cur w' cb ao n cap := by
  obtain ⟨i, x, h1, h2⟩ := h
  exact ⟨i, x, h1, (hb.block cb hB).trans h2⟩
end Go.Proofs.YtocfggfccbnbhaaGreatDoor

namespace Go.Proofs.YtocfggfccbnbhaaGreatDoor
open Go.RowKit
theorem Dl.own {W : World} {B : Nat} {v : Value} {l : List R3} (h : Ow W B v l) (h4 : l.length ≤ 4) : Dl W B v l := by
  have hw := h
  rcases h.2 with ⟨h1, h2⟩ | ⟨g, cap, cur, h1, h2, h3, h5, h6, h7, h8⟩
  · subst h1
    exact ⟨none, 0, by rw [h2], h4, by omega, fun _ => rfl, (Ow.rs hw).2, (fun x e => by cases e)⟩
  · subst h1
    exact ⟨_, cap, rfl, h4, h5, (fun e => by cases e), (Ow.rs hw).2, (fun x e => by simp only [Option.some.injEq] at e; subst e; exact h2)⟩
theorem Dl.kept {W W' : World} {B cb : Nat} {v : Value} {l : List R3} (h : Dl W B v l) (hg : W.grownBy W' (some cb)) (hc : cb < B) : Dl W' B v l := by
  obtain ⟨a, c, h1, h2, h3, h4, h5, h6⟩ := h
  exact ⟨a, c, h1, h2, h3, h4, h5.grown hg (fun x e => by have := h6 x e; omega), h6⟩
end Go.Proofs.YtocfggfccbnbhaaGreatDoor

namespace Go.Proofs.YtocfggfccbnbhaaGreatDoor
open Go.RowKit
/-- Block k holds a reader. -/
def Dg (W : World) (k : Nat) (s : ByteArray) (b : Int) : Prop := W.heap[k]? = some (.cells #[.string s, .int .i64 b] 121 (0, 0))
theorem Dg.lt {W : World} {k : Nat} {s : ByteArray} {b : Int} (h : Dg W k s b) : k < W.heap.size := (Array.getElem?_eq_some_iff.1 h).1
theorem Dg.new (w : World) (s : ByteArray) (b : Int) : Dg (w.alloc (.cells #[.string s, .int .i64 b] 121)) w.heap.size s b := heap_alloc_new w _
theorem Dg.later {W W' : World} {k : Nat} {s : ByteArray} {b : Int} (h : Dg W k s b) (hb : Below W.heap.size W W') : Dg W' k s b := (hb.block k h.lt).trans h
theorem Dg.below {W W' : World} {B k : Nat} {s : ByteArray} {b : Int} (h : Dg W k s b) (hb : Below B W W') (hk : k < B) : Dg W' k s b := (hb.block k hk).trans h
theorem Dg.cells {W : World} {k : Nat} {s : ByteArray} {b : Int} (h : Dg W k s b) : W.cell? ⟨k, 0, none⟩ = some (.string s) ∧ W.cell? ⟨k, 1, none⟩ = some (.int .i64 b) :=
  ⟨cell_of_row W k 0 _ _ _ h, cell_of_row W k 1 _ _ _ h⟩
theorem Dg.loose {W : World} {k : Nat} {s : ByteArray} {b : Int} (h : Dg W k s b) : W.frozen? ⟨k, 0, none⟩ = false ∧ W.frozen? ⟨k, 1, none⟩ = false :=
  ⟨frozen_of_row W k 0 _ _ h, frozen_of_row W k 1 _ _ h⟩
theorem Dg.s1 {W : World} {k : Nat} {s : ByteArray} {b : Int} (h : Dg W k s b) (b' : Int) : Dg (W.setCell ⟨k, 1, none⟩ (.int .i64 b')) k s b' := heap_setCell_same W k 1 _ _ (.int .i64 b') h
theorem Dg.far {W : World} {k j i : Nat} {s : ByteArray} {b : Int} (h : Dg W k s b) (x : Value) (hk : k ≠ j) : Dg (W.setCell ⟨j, i, none⟩ x) k s b := heap_setCell_far x h hk
/-- What it panics with. -/
abbrev notHere : List PanicEntry := [{ v := .iface 160 (.agg #[]), recovered := false }]
theorem must_yes (w : World) : Calls Tryz.prog 96 #[.bool true] w fun e w' => e = .returned (.tuple #[]) ∧ w' = w := by
  go_enter Tryz.func96, Tryz.ntmps96
  go_wp2
  go_end0
  exact ⟨rfl, rfl⟩
theorem must_no (w : World) : Calls Tryz.prog 96 #[.bool false] w fun e w' => e = .panicked notHere ∧ w' = w := by
  go_enter Tryz.func96, Tryz.ntmps96
  go_wp2
  exact ⟨rfl, rfl, rfl⟩
/-- How a call ends that reads a number, a text, a register, by the reader at block k. -/
def Num1 (w : World) (k : Nat) (s : ByteArray) (b : Int) (e : Ending) (w' : World) : Prop :=
  (∃ n c, rd s b = some (n, c) ∧ e = .returned (.int .i64 n) ∧ Dg w' k s c ∧ w.grownBy w' (some k)) ∨ (rd s b = none ∧ e = .panicked notHere ∧ w.grownBy w' (some k))
def Txt1 (w : World) (k : Nat) (s : ByteArray) (b : Int) (e : Ending) (w' : World) : Prop :=
  (∃ t c, rsh s b = some (t, c) ∧ e = .returned (.string t) ∧ Dg w' k s c ∧ w.grownBy w' (some k)) ∨ (rsh s b = none ∧ e = .panicked notHere ∧ w.grownBy w' (some k))
theorem rdi_l (s : ByteArray) (b : Int) (hs : s.size ≤ 1048576) : ∃ (n c : Int) (ok : Bool), Hid ((ok = true ∧ rd s b = some (n, c)) ∨ (ok = false ∧ rd s b = none)) ∧ Hid (∀ w, Calls Tryz.prog 136 #[.string s, .int .i64 b] w fun e w' => e = .returned (.tuple #[.int .i64 n, .int .i64 c, .bool ok]) ∧ Below w.heap.size w w') := by
  have h := implRd s b (hs := hs)
  unfold rdT at h
  cases hr : rd s b with
  | none => rw [hr] at h; exact ⟨0, 0, false, Or.inr ⟨rfl, rfl⟩, h⟩
  | some p => rw [hr] at h; exact ⟨p.1, p.2, true, Or.inl ⟨rfl, rfl⟩, h⟩
theorem rshi_l (s : ByteArray) (b : Int) (hs : s.size ≤ 1048576) : ∃ (t : ByteArray) (c : Int) (ok : Bool), Hid ((ok = true ∧ rsh s b = some (t, c)) ∨ (ok = false ∧ rsh s b = none)) ∧ Hid (∀ w, Calls Tryz.prog 152 #[.string s, .int .i64 b] w fun e w' => e = .returned (.tuple #[.string t, .int .i64 c, .bool ok]) ∧ Below w.heap.size w w') := by
  have h := implRsh s b (hs := hs)
  unfold rshT at h
  cases hr : rsh s b with
  | none => rw [hr] at h; exact ⟨⟨#[]⟩, 0, false, Or.inr ⟨rfl, rfl⟩, h⟩
  | some p => rw [hr] at h; exact ⟨p.1, p.2, true, Or.inl ⟨rfl, rfl⟩, h⟩
set_option maxHeartbeats 800000 in
set_option maxRecDepth 100000 in
theorem numr_any (k : Nat) (s : ByteArray) (b : Int) (w : World) (hs : s.size ≤ 1048576) (hc : Dg w k s b) :
    Calls Tryz.prog 93 #[.pointer (some ⟨k, 0, none⟩)] w fun e w' => Num1 w k s b e w' := by
  obtain ⟨n, c, ok, hr, cr⟩ := rdi_l s b hs
  have HC := hid hc
  clear hc hs
  have HS : Hid (∀ W, Below w.heap.size w W → (W.cell? ⟨k, 0, none⟩ = some (.string s) ∧ W.cell? ⟨k, 1, none⟩ = some (.int .i64 b))) := fun W h => (HC.out.later h).cells
  go_enter Tryz.func93, Tryz.ntmps93
  go_wp2_with fail
  go_region_held3 (fun W => (W.cell? ⟨k, 0, none⟩ = some (.string s) ∧ W.cell? ⟨k, 1, none⟩ = some (.int .i64 b)))
    ((refine HS.out _ ?_; repeat (first | exact bdr (bre _) | refine btr ?_ (by assumption))))
    ((go_at_call 136; refine (cr.out _).mono ?_; rintro e w1 ⟨rfl, hb1⟩))
  have B1 : Hid (Below w.heap.size w w1) := by show Below _ _ _; repeat (first | exact bdr (bre _) | refine btr ?_ (by assumption))
  have K1 := hid (HC.out.later B1.out)
  have d := K1.out.cells
  have f := K1.out.loose
  clear hb1 HS
  cases ok
  · go_wp2_with fail
    refine (must_no _).mono ?_; rintro e w2 ⟨rfl, h2⟩
    subst h2
    go_wp2_with fail
    exact ⟨rfl, Or.inr ⟨(by rcases hr.out with ⟨h, _⟩ | ⟨_, h⟩; (cases h); exact h), rfl, grown_below B1.out _⟩⟩
  · go_wp2_with fail
    refine (must_yes _).mono ?_; rintro e w2 ⟨rfl, h2⟩
    subst h2
    go_wp2
    go_ret
    exact Or.inl ⟨n, c, (by rcases hr.out with ⟨_, h⟩ | ⟨h, _⟩; (exact h); cases h), rfl, K1.out.s1 c, wst (grown_below B1.out _) 1 _⟩
set_option maxHeartbeats 800000 in
set_option maxRecDepth 100000 in
theorem short_any (k : Nat) (s : ByteArray) (b : Int) (w : World) (hs : s.size ≤ 1048576) (hc : Dg w k s b) :
    Calls Tryz.prog 112 #[.pointer (some ⟨k, 0, none⟩)] w fun e w' => Txt1 w k s b e w' := by
  obtain ⟨t, c, ok, hr, cr⟩ := rshi_l s b hs
  have HC := hid hc
  clear hc hs
  have HS : Hid (∀ W, Below w.heap.size w W → (W.cell? ⟨k, 0, none⟩ = some (.string s) ∧ W.cell? ⟨k, 1, none⟩ = some (.int .i64 b))) := fun W h => (HC.out.later h).cells
  go_enter Tryz.func112, Tryz.ntmps112
  go_wp2_with fail
  go_region_held3 (fun W => (W.cell? ⟨k, 0, none⟩ = some (.string s) ∧ W.cell? ⟨k, 1, none⟩ = some (.int .i64 b)))
    ((refine HS.out _ ?_; repeat (first | exact bdr (bre _) | refine btr ?_ (by assumption))))
    ((go_at_call 152; refine (cr.out _).mono ?_; rintro e w1 ⟨rfl, hb1⟩))
  have B1 : Hid (Below w.heap.size w w1) := by show Below _ _ _; repeat (first | exact bdr (bre _) | refine btr ?_ (by assumption))
  have K1 := hid (HC.out.later B1.out)
  have d := K1.out.cells
  have f := K1.out.loose
  clear hb1 HS
  cases ok
  · go_wp2_with fail
    refine (must_no _).mono ?_; rintro e w2 ⟨rfl, h2⟩
    subst h2
    go_wp2_with fail
    exact ⟨rfl, Or.inr ⟨(by rcases hr.out with ⟨h, _⟩ | ⟨_, h⟩; (cases h); exact h), rfl, grown_below B1.out _⟩⟩
  · go_wp2_with fail
    refine (must_yes _).mono ?_; rintro e w2 ⟨rfl, h2⟩
    subst h2
    go_wp2
    go_ret
    exact Or.inl ⟨t, c, (by rcases hr.out with ⟨_, h⟩ | ⟨h, _⟩; (exact h); cases h), rfl, K1.out.s1 c, wst (grown_below B1.out _) 1 _⟩
end Go.Proofs.YtocfggfccbnbhaaGreatDoor

namespace Go.Proofs.YtocfggfccbnbhaaGreatDoor
open Go.RowKit
def rg3 (s : ByteArray) (b : Int) : Option (R3 × Int) := (rd s b).bind fun p => (rd s p.2).bind fun q => (rd s q.2).map fun r => ((p.1, q.1, r.1), r.2)
theorem rg3_some {s : ByteArray} {b x b1 y b2 z b3 : Int} (h1 : rd s b = some (x, b1)) (h2 : rd s b1 = some (y, b2)) (h3 : rd s b2 = some (z, b3)) : rg3 s b = some ((x, y, z), b3) := by
  unfold rg3; rw [h1]; simp only [Option.bind_some]; rw [h2]; simp only [Option.bind_some]; rw [h3]; rfl
theorem rg3_no1 {s : ByteArray} {b : Int} (h1 : rd s b = none) : rg3 s b = none := by unfold rg3; rw [h1]; rfl
theorem rg3_no2 {s : ByteArray} {b x b1 : Int} (h1 : rd s b = some (x, b1)) (h2 : rd s b1 = none) : rg3 s b = none := by
  unfold rg3; rw [h1]; simp only [Option.bind_some]; rw [h2]; rfl
theorem rg3_no3 {s : ByteArray} {b x b1 y b2 : Int} (h1 : rd s b = some (x, b1)) (h2 : rd s b1 = some (y, b2)) (h3 : rd s b2 = none) : rg3 s b = none := by
  unfold rg3; rw [h1]; simp only [Option.bind_some]; rw [h2]; simp only [Option.bind_some]; rw [h3]; rfl
def Reg1 (w : World) (k : Nat) (s : ByteArray) (b : Int) (e : Ending) (w' : World) : Prop :=
  (∃ x y z c, rg3 s b = some ((x, y, z), c) ∧ e = .returned (.agg #[.int .i64 x, .int .i64 y, .int .i64 z]) ∧ Dg w' k s c ∧ w.grownBy w' (some k)) ∨ (rg3 s b = none ∧ e = .panicked notHere ∧ w.grownBy w' (some k))
/-- A stamp that is read. -/
def rg2 (s : ByteArray) (b : Int) : Option ((Int × Int) × Int) := (rd s b).bind fun p => (rd s p.2).map fun q => ((p.1, q.1), q.2)
theorem rg2_some {s : ByteArray} {b x b1 y b2 : Int} (h1 : rd s b = some (x, b1)) (h2 : rd s b1 = some (y, b2)) : rg2 s b = some ((x, y), b2) := by
  unfold rg2; rw [h1]; simp only [Option.bind_some]; rw [h2]; rfl
theorem rg2_no1 {s : ByteArray} {b : Int} (h1 : rd s b = none) : rg2 s b = none := by unfold rg2; rw [h1]; rfl
theorem rg2_no2 {s : ByteArray} {b x b1 : Int} (h1 : rd s b = some (x, b1)) (h2 : rd s b1 = none) : rg2 s b = none := by
  unfold rg2; rw [h1]; simp only [Option.bind_some]; rw [h2]; rfl
theorem rg3_two {s : ByteArray} {b x b1 y z c : Int} (h1 : rd s b = some (x, b1)) (h2 : rg2 s b1 = some ((y, z), c)) : rg3 s b = some ((x, y, z), c) := by
  unfold rg2 at h2
  cases h3 : rd s b1 with
  | none => rw [h3] at h2; cases h2
  | some p =>
    rw [h3] at h2
    simp only [Option.bind_some] at h2
    cases h4 : rd s p.2 with
    | none => rw [h4] at h2; cases h2
    | some q =>
      rw [h4] at h2
      simp only [Option.map_some, Option.some.injEq, Prod.mk.injEq] at h2
      obtain ⟨⟨rfl, rfl⟩, rfl⟩ := h2
      exact rg3_some h1 h3 h4
theorem rg3_two_no {s : ByteArray} {b x b1 : Int} (h1 : rd s b = some (x, b1)) (h2 : rg2 s b1 = none) : rg3 s b = none := by
  cases h3 : rd s b1 with
  | none => exact rg3_no2 h1 h3
  | some p =>
    cases h4 : rd s p.2 with
    | none => exact rg3_no3 h1 h3 h4
    | some q => rw [rg2_some h3 h4] at h2; cases h2
def Stm1 (w : World) (k : Nat) (s : ByteArray) (b : Int) (e : Ending) (w' : World) : Prop :=
  (∃ x y c, rg2 s b = some ((x, y), c) ∧ e = .returned (.agg #[.int .i64 x, .int .i64 y]) ∧ Dg w' k s c ∧ w.grownBy w' (some k)) ∨ (rg2 s b = none ∧ e = .panicked notHere ∧ w.grownBy w' (some k))
theorem Sg.free {W : World} {k ty : Nat} {t b : Int} (h : Sg W k ty t b) : W.frozen? ⟨k, 0, none⟩ = false ∧ W.frozen? ⟨k, 1, none⟩ = false :=
  ⟨frozen_of_row W k 0 _ _ h, frozen_of_row W k 1 _ _ h⟩
set_option maxHeartbeats 800000 in
set_option maxRecDepth 100000 in
theorem stmr_any (k : Nat) (s : ByteArray) (b : Int) (w : World) (hs : s.size ≤ 1048576) (hc : Dg w k s b) :
    Calls Tryz.prog 113 #[.pointer (some ⟨k, 0, none⟩)] w fun e w' => Stm1 w k s b e w' := by
  have HSZ := hid hs
  have LK : Hid (k < w.heap.size) := hc.lt
  have R0 := hid (Sg.new w 35 0 0)
  have C0 := hid (hc.later (bpush (bre w) (.cells #[.int .i64 0, .int .i64 0] 35)))
  clear hc hs
  go_enter Tryz.func113, Tryz.ntmps113
  go_wp2_with fail
  refine (numr_any k s b _ HSZ.out C0.out).mono ?_; rintro e w1 (⟨x, b1, hr, rfl, hd, hg⟩ | ⟨hr, rfl, hg⟩)
  case inr =>
    have H := hid hr
    have G := hid (grown_push hg)
    clear hr hg
    go_wp2_with fail
    exact ⟨rfl, Or.inr ⟨rg2_no1 H.out, rfl, G.out⟩⟩
  have H1 := hid hr
  have C1 := hid hd
  have l := LK.out
  have R1 := hid (R0.out.grown hg (by simp; omega))
  have G1 := hid (grown_push hg)
  clear hr hd hg l R0 C0
  go_wp2_with fail
  refine (numr_any k s b1 _ HSZ.out C1.out).mono ?_; rintro e w2 (⟨y, b2, hr, rfl, hd, hg⟩ | ⟨hr, rfl, hg⟩)
  case inr =>
    have H := hid hr
    have G := hid (wtr G1.out hg)
    clear hr hg
    go_wp2_with fail
    exact ⟨rfl, Or.inr ⟨rg2_no2 H1.out H.out, rfl, G.out⟩⟩
  have H2 := hid hr
  have C2 := hid hd
  have l := LK.out
  have R2 := hid (R1.out.grown hg (by simp; omega))
  have G2 := hid (wtr G1.out hg)
  have d := R2.out.cells
  have f := R2.out.free
  clear hr hd hg l R1 C1 G1
  go_wp2
  have l := LK.out
  have d3 := (R2.out.set' (t' := x) (b' := y)).cells
  refine bodyPost_ret (v := .agg #[.int .i64 x, .int .i64 y]) (by simp [results, Tryz.results113, go_sem, d3]) rfl (Or.inl ⟨x, y, b2, rg2_some H1.out H2.out, rfl, ?_, ?_⟩)
  · exact (C2.out.far _ (by omega)).far _ (by omega)
  · exact wst_new (wst_new G2.out (Nat.le_refl _) 0 _) (Nat.le_refl _) 1 _
set_option maxHeartbeats 800000 in
set_option maxRecDepth 100000 in
theorem regr_any (k : Nat) (s : ByteArray) (b : Int) (w : World) (hs : s.size ≤ 1048576) (hc : Dg w k s b) :
    Calls Tryz.prog 153 #[.pointer (some ⟨k, 0, none⟩)] w fun e w' => Reg1 w k s b e w' := by
  have HSZ := hid hs
  have LK : Hid (k < w.heap.size) := hc.lt
  have R0 := hid (Rg.new w 138 0 0 0)
  have C0 := hid (hc.later (bpush (bre w) (.cells #[.int .i64 0, .int .i64 0, .int .i64 0] 138)))
  clear hc hs
  go_enter Tryz.func153, Tryz.ntmps153
  go_wp2_with fail
  refine (numr_any k s b _ HSZ.out C0.out).mono ?_; rintro e w1 (⟨x, b1, hr, rfl, hd, hg⟩ | ⟨hr, rfl, hg⟩)
  case inr =>
    have H := hid hr
    have G := hid (grown_push hg)
    clear hr hg
    go_wp2_with fail
    exact ⟨rfl, Or.inr ⟨rg3_no1 H.out, rfl, G.out⟩⟩
  have H1 := hid hr
  have C1 := hid hd
  have l := LK.out
  have R1 := hid (R0.out.grown hg (by simp; omega))
  have G1 := hid (grown_push hg)
  clear hr hd hg l R0 C0
  go_wp2_with fail
  refine (stmr_any k s b1 _ HSZ.out C1.out).mono ?_; rintro e w2 (⟨y, z, b3, hr, rfl, hd, hg⟩ | ⟨hr, rfl, hg⟩)
  case inr =>
    have H := hid hr
    have G := hid (wtr G1.out hg)
    clear hr hg
    go_wp2_with fail
    exact ⟨rfl, Or.inr ⟨rg3_two_no H1.out H.out, rfl, G.out⟩⟩
  have H3 := hid hr
  have l := LK.out
  have N3 := hid (bpush (bre w2) (.cells #[.int .i64 y, .int .i64 z] 35))
  have C3 := hid (hd.later N3.out)
  have R3 := hid ((R1.out.grown hg (by simp; omega)).later N3.out)
  have S3 := hid (Sg.new w2 35 y z)
  have G3 := hid (wtr (wtr G1.out hg) (World.grownBy_alloc w2 (.cells #[.int .i64 y, .int .i64 z] 35) (some k)))
  have d := R3.out.cells
  have f := R3.out.loose
  have d2 := S3.out.cells
  clear hr hd hg l R1 C1 G1 N3
  go_wp2
  have l := LK.out
  have d3 := (R3.out.set' (v' := x) (t' := y) (b' := z)).cells
  refine bodyPost_ret (v := .agg #[.int .i64 x, .int .i64 y, .int .i64 z]) (by simp [results, Tryz.results153, go_sem, d3]) rfl (Or.inl ⟨x, y, z, b3, rg3_two H1.out H3.out, rfl, ?_, ?_⟩)
  · exact ((C3.out.far _ (by omega)).far _ (by omega)).far _ (by omega)
  · exact wst_new (wst_new (wst_new G3.out (Nat.le_refl _) 0 _) (Nat.le_refl _) 1 _) (Nat.le_refl _) 2 _
theorem regr_ok (k : Nat) (s : ByteArray) (b x y z c : Int) (w : World) (hs : s.size ≤ 1048576) (hc : Dg w k s b) (h : rg3 s b = some ((x, y, z), c)) :
    Calls Tryz.prog 153 #[.pointer (some ⟨k, 0, none⟩)] w fun e w' => e = .returned (.agg #[.int .i64 x, .int .i64 y, .int .i64 z]) ∧ Dg w' k s c ∧ w.grownBy w' (some k) := by
  refine (regr_any k s b w hs hc).mono ?_
  rintro e w1 (⟨x', y', z', c', hr, rfl, hd, hg⟩ | ⟨hr, _⟩)
  · rw [h] at hr
    simp only [Option.some.injEq, Prod.mk.injEq] at hr
    obtain ⟨⟨rfl, rfl, rfl⟩, rfl⟩ := hr
    exact ⟨rfl, hd, hg⟩
  · rw [h] at hr; cases hr
theorem regr_no (k : Nat) (s : ByteArray) (b : Int) (w : World) (hs : s.size ≤ 1048576) (hc : Dg w k s b) (h : rg3 s b = none) :
    Calls Tryz.prog 153 #[.pointer (some ⟨k, 0, none⟩)] w fun e w' => e = .panicked notHere ∧ w.grownBy w' (some k) := by
  refine (regr_any k s b w hs hc).mono ?_
  rintro e w1 (⟨x', y', z', c', hr, _⟩ | ⟨_, rfl, hg⟩)
  · rw [h] at hr; cases hr
  · exact ⟨rfl, hg⟩
end Go.Proofs.YtocfggfccbnbhaaGreatDoor

