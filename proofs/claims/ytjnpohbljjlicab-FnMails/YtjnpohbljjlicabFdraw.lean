/- Flags drawn. -/
import Derived.Test.YtjnpohbljjlicabRdraw
namespace Go.Proofs.Ytjnpohbljjlicab
open Go.RowKit

/-- A drawn flag: 0 or 1, its stamp right. -/
def gd (p : R3) : Prop := (0 ≤ p.1 ∧ p.1 < 2) ∧ 0 ≤ p.2.1 ∧ p.2.1 < 12 ∧ 1 ≤ p.2.2 ∧ p.2.2 ≤ 2

theorem Ow.keep {W W' : World} {B cb : Nat} {v : Value} {l : List R3} (h : Ow W B v l) (hg : W.grownBy W' (some cb)) (hc : cb < B) : Ow W' B v l :=
  World.ownsRow.kept h hg (by
    cases hv : v.ownBlock with
    | none => exact Or.inl rfl
    | some k => right; have := (World.ownsRow.lt h k hv).1; intro e; simp at e; omega)

theorem Sg.same {W W' : World} {k ty : Nat} {t b : Int} (h : Sg W k ty t b) (e : W'.heap[k]? = W.heap[k]?) : Sg W' k ty t b := e.trans h

/-- One register appended, as one step of a region that draws its order; what it leaves alone. -/
theorem step_append_rg2 {ops : Array Oper} {o : Oper} {a : Act} {w : World} {K : Act → World → Prop} {Q : Exit → Act → World → Prop} {E : Prop}
    (hg : o.guard = none) (s x : Operand) (hop : o.op = Op.call { callee := Callee.builtin Builtin.append, args := #[s, x], argTypes := #[24, 24] })
    (base : Nat) (v : Value) (l : List R3) (hs : a.eval s = v) (p q r : Int) (hown : Ow w base v l)
    (hx : a.eval x = .slice (some ⟨w.heap.size, 0, none⟩) 1 1) (hlen : l.length ≤ 1048576) (hbase : base ≤ w.heap.size)
    (hK : ∀ v' w', Ow w' base v' (l ++ [(p, q, r)]) → Below base w w' → (∀ k, k < w.heap.size → some k ≠ v.ownBlock → w'.heap[k]? = w.heap[k]?) → K (a.put o.dst v') w') :
    if Region.wanted o (yielded ops a.tmps) = true then Oper.wp Try.prog o a (w.alloc (.cells #[.int .i64 p, .int .i64 q, .int .i64 r] 47)) K Q else E := by
  have hw : Region.wanted o (yielded ops a.tmps) = true := by simp [Region.wanted, hg]
  rw [if_pos hw]
  obtain ⟨i0, hi, hz0, hz1, hz2⟩ := info_parts3 info_rg
  refine wp_append_own _ s x 24 hop base 47 i0 _ 3 24 Try.underlying24 hi hz0 hz1 hz2 rfl (by decide) v _ _ hs (hown.alloc _) ⟨w.heap.size, 0, none⟩ 1 1 (fl [(p, q, r)]) hx rfl (cells_new3 w (p, q, r) 47) (fl_one _) (by unfold maxLen; omega) (by omega) (by simp; omega) ?_
  intro v' w' hown' hgr _
  refine hK v' w' ?_ (((Below.refl base w).alloc hbase _).grown hgr (by simp; omega) (fun k hk => (hown.lt k hk).1)) (fun k hk hne => (hgr.block k (by simp; omega) hne).trans (Below.heap_alloc w _ k hk))
  unfold Ow; rw [fl_app]; simpa using hown'

set_option maxHeartbeats 800000 in
set_option maxRecDepth 100000 in
theorem l04Flags_any (cb : Nat) (ao : Option Addr) (n cap : Nat) (w : World) (hn : n ≤ 1048576) (hcur : Cur w cb ao n cap) (hcode : Code w cb ao n) :
    Calls Try.prog 62 #[.pointer (some ⟨cb, 0, none⟩)] w fun e w' => ∃ (v : Value) (l : List R3), l.length = 3 ∧ (∀ p ∈ l, gd p) ∧ e = .returned v ∧ Ow w' w.heap.size v l ∧ Cur w' cb ao n cap ∧ w.grownBy w' (some cb) := by
  have hlt := hcur.lt
  have HC := hid hcur
  have HO := hid hcode
  clear hcur hcode
  go_enter Try.func62, Try.ntmps62
  go_wp2
  go_loopw [3, 4] (fun vv iv wr => ∃ l : List R3, l.length ≤ 3 ∧ iv = .int .i64 (l.length : Int) ∧ (∀ p ∈ l, gd p) ∧ Ow wr w.heap.size vv l ∧ Cur wr cb ao n cap ∧ w.grownBy wr (some cb)) (fun _ iv _ => 3 - (intOf iv).toNat)
  case atStart => exact ⟨[], by decide, rfl, by simp, own_empty w _ (Nat.le_refl _), HC.out.alloc _, World.grownBy_alloc _ _ _⟩
  case round =>
    obtain ⟨l, hl3, rfl, hgd, hown, hcur, hg⟩ := hrel
    have HGD := hid hgd
    have HOW := hid hown
    have HCU := hid hcur
    have HG := hid hg
    obtain ⟨i, hi⟩ : ∃ i, l.length = i := ⟨_, rfl⟩
    have HI := hid hi
    rw [hi] at hl3 ⊢
    clear hgd hown hcur hg hi
    by_cases h3 : i < 3
    · go_wp2_with fail
      refine (l03Stamp_any cb ao n cap _ hn HCU.out (HO.out.later HG.out)).mono ?_; rintro e w1 ⟨t, b, htb, rfl, hc1, hg1⟩
      have HTB := hid htb
      obtain ⟨W1, hW1⟩ : ∃ W1, w1.alloc (.cells #[.int .i64 t, .int .i64 b] 45) = W1 := ⟨_, rfl⟩
      have A1 : Hid (Sg W1 w1.heap.size 45 t b) := by subst hW1; exact Sg.new w1 _ t b
      have O1 : Hid (Ow W1 w.heap.size u3 l) := by subst hW1; exact own_later (Ow.keep HOW.out hg1 hlt) (bpush (bre _) _)
      have C1 : Hid (Cur W1 cb ao n cap) := by subst hW1; exact hc1.alloc _
      have G1 : Hid (w.grownBy W1 (some cb)) := by subst hW1; exact gal (only_trans HG.out hg1) _
      have HOB : Hid (∀ k, u3.ownBlock = some k → k < w1.heap.size) := fun k hk => (World.ownsRow.lt (Ow.keep HOW.out hg1 hlt) k hk).2
      have HS1 : Hid (w.heap.size ≤ w1.heap.size) := (only_trans HG.out hg1).size
      clear hc1 hg1 htb
      go_wp2_with fail
      clear hW1
      go_region_held3 (fun W => W.cell? ⟨w1.heap.size, 0, none⟩ = some (.int .i64 t) ∧ W.cell? ⟨w1.heap.size, 1, none⟩ = some (.int .i64 b))
        (first | exact A1.out.cells | exact SG2.out.cells | exact (SG2.out.later (bpush (bre _) _)).cells | exact SG3.out.cells)
        ((first
          | (go_at_call 25; refine (below4 cb ao n cap _ hn C1.out.drew (HO.out.later (gdr G1.out)) 2 (by decide) (by decide)).mono ?_; rintro e w2 ⟨x, hx, rfl, hc2, hg2⟩; have SG2 : Hid (Sg w2 w1.heap.size 45 t b) := Sg.kept (W := W1.drew) A1.out hg2 (by have := HS1.out; omega); have O2 : Hid (Ow w2 w.heap.size u3 l) := Ow.keep (W := W1.drew) O1.out hg2 hlt; have HG2 : Hid (w.grownBy w2 (some cb)) := only_trans (gdr G1.out) hg2; have HX := hid hx)
          | (refine step_append_rg2 rfl (.tmp 13) (.tmp 18) rfl w.heap.size _ _ (by rfl) x t b O2.out (by rfl) (by rw [HI.out]; omega) HG2.out.size ?_; intro v3 w3 hown3 hb3 hk3; have SG3 : Hid (Sg w3 w1.heap.size 45 t b) := Sg.same SG2.out (hk3 _ SG2.out.lt (fun e => by have := HOB.out _ e.symm; omega)))))
      all_goals
        go_wp2
        go_roundw
        case rel => exact ⟨l ++ [((x : Int), t, b)], by rw [List.length_append, HI.out]; simp; omega, by rw [List.length_append, HI.out]; go_num, by intro p hp; rw [List.mem_append] at hp; rcases hp with hp | hp; exact HGD.out p hp; simp at hp; subst hp; exact ⟨by have := HX.out; omega, HTB.out⟩, hown3, hc2.later hb3 hlt, only_add HG2.out hb3⟩
        case measure => simp [intOf]; omega
    · have HE : Hid (l.length = 3) := by show _ = _; rw [HI.out]; omega
      go_wp2
      go_ret
      exact ⟨_, l, HE.out, HGD.out, rfl, HOW.out, HCU.out, HG.out⟩
end Go.Proofs.Ytjnpohbljjlicab
