/- Flags drawn, right or not. -/
import Derived.Test.YtjnpohbljjlicabFdraw
namespace Go.Proofs.Ytjnpohbljjlicab
open Go.RowKit

theorem Ow.solid' {W : World} {B : Nat} {v : Value} {l : List R3} (h : Ow W B v l) (hl : 0 < l.length) : ∃ g c, v = .slice (some ⟨g, 0, none⟩) l.length c ∧ B ≤ g ∧ l.length ≤ c ∧ (c : Int) ≤ 9223372036854775807 := by
  rcases h.2 with ⟨h1, h2⟩ | ⟨g, cap, cur, h1, h2, h3, h4, h5, _⟩
  · omega
  · exact ⟨g, cap, h1, h2, h4, by unfold maxLen at h5; omega⟩

/-- What is drawn as a list: a slice, and the registers in it. -/
def Dl (W : World) (B : Nat) (v : Value) (l : List R3) : Prop := ∃ (a : Option Addr) (c : Nat), v = .slice a l.length c ∧ l.length ≤ 4 ∧ l.length ≤ c ∧ (a = none → c = 0) ∧ Rs W a l ∧ ∀ x, a = some x → B ≤ x.block
theorem Dl.of {W : World} {B B' : Nat} {v : Value} {l : List R3} (h : Ow W B v l) (h0 : 0 < l.length) (h4 : l.length ≤ 4) (hB : B' ≤ B) : Dl W B' v l := by
  obtain ⟨g, c, rfl, hg, hc, _⟩ := h.solid' h0
  exact ⟨_, c, rfl, h4, hc, (by intro e; cases e), (Ow.rs h).2, by intro x e; simp at e; subst e; exact Nat.le_trans hB hg⟩
theorem Dl.later {W W' : World} {B : Nat} {v : Value} {l : List R3} (h : Dl W B v l) (hb : Below W.heap.size W W') : Dl W' B v l := by
  obtain ⟨a, c, h1, h2, h3, h4, h5, h6⟩ := h
  exact ⟨a, c, h1, h2, h3, h4, h5.later hb, h6⟩
theorem Dl.set {W : World} {B k o : Nat} {u v : Value} {l : List R3} (h : Dl W B v l) (hk : k < B) : Dl (W.setCell ⟨k, o, none⟩ u) B v l := by
  obtain ⟨a, c, h1, h2, h3, h4, h5, h6⟩ := h
  exact ⟨a, c, h1, h2, h3, h4, h5.grown (only_set (cb := k)) (fun x e => by have := h6 x e; omega), h6⟩
theorem Code.over {w W : World} {n : Nat} {ao : Option Addr} (h : Code w w.heap.size ao n) (hb : Below w.heap.size w W) : Code W W.heap.size ao n := by
  intro hn
  obtain ⟨b, off, h1, h2, h3⟩ := h hn
  refine ⟨b, off, h1, Nat.lt_of_lt_of_le h2 hb.size, fun j hj => ?_⟩
  obtain ⟨z, hz, hc⟩ := h3 j hj
  exact ⟨z, hz, (hb.cell (p := ⟨b, off + j, none⟩) h2).trans hc⟩
theorem Row.tail {W : World} {k o : Nat} {p : R3} {l : List R3} (h : Row W k o (p :: l)) : Row W k (o + 3) l := by
  intro i hi
  have := h (i + 1) (by simpa using hi)
  rw [show o + (i + 1) * 3 = o + 3 + i * 3 by omega] at this
  simpa using this
theorem eq_false' {x y : Int} (h : x ≠ y) : (x == y) = false := by simpa using h

set_option maxHeartbeats 1600000 in
set_option maxRecDepth 100000 in
theorem l04Any_any (cb : Nat) (ao : Option Addr) (n cap : Nat) (w : World) (hn : n ≤ 1048576) (hcur : Cur w cb ao n cap) (hcode : Code w cb ao n) :
    Calls Try.prog 42 #[.pointer (some ⟨cb, 0, none⟩)] w fun e w' => ∃ (v : Value) (l : List R3), e = .returned v ∧ Dl w' w.heap.size v l ∧ Cur w' cb ao n cap ∧ w.grownBy w' (some cb) := by
  have hlt := hcur.lt
  have HC := hid hcur
  have HO := hid hcode
  clear hcur hcode
  go_enter Try.func42, Try.ntmps42
  go_wp2_with fail
  refine (below4 cb ao n cap _ hn HC.out HO.out 10 (by decide) (by decide)).mono ?_; rintro e w1 ⟨x, hx, rfl, hc1, hg1⟩
  have C1 := hid hc1
  have G1 := hid hg1
  clear hc1 hg1
  go_wp2_with fail
  refine (l04Flags_any cb ao n cap _ hn C1.out (HO.out.later G1.out)).mono ?_; rintro e w2 ⟨v, l, hl, _, rfl, hown, hc2, hg2⟩
  have C2 := hid hc2
  have G2 := hid (only_trans G1.out hg2)
  have O2 := hid hown
  have hs1 := G1.out.size
  have hs2 := hg2.size
  have HL := hid hl
  clear hc2 hg2 hown hl
  have D2 := hid (Dl.of O2.out (by rw [HL.out]; decide) (by rw [HL.out]; decide) hs1)
  by_cases h0 : x = 0
  · subst h0
    go_wp2_with (at_builtin; refine wpList_append_rg w2 rfl (.tmp 12) (.tmp 14) rfl w1.heap.size _ _ (by rfl) O2.out _ _ _ rfl (by rw [HL.out]; decide) hs2 ?_; rotate_right; intro v3 w3 hown3 hb3)
    go_ret
    exact ⟨_, _, rfl, Dl.of hown3 (by simp) (by rw [List.length_append, HL.out]; decide) hs1, C2.out.later hb3 (by omega), only_add G2.out (hb3.mono hs1)⟩
  · by_cases h1 : x = 1
    · subst h1
      obtain ⟨g, c, hv, hg, hlc, hcm⟩ := O2.out.solid' (by rw [HL.out]; decide)
      rw [HL.out] at hv hlc
      subst hv
      have DT : Hid (∃ l' : List R3, l'.length = 2 ∧ Dl w2 w.heap.size (.slice (some ⟨g, 3, none⟩) 2 (c - 1)) l') := by
        show ∃ l' : List R3, _
        have hl := HL.out
        match l, hl with
        | p :: l', hl =>
          have hl2 : l'.length = 2 := by simpa using hl
          obtain ⟨k, o, he, hk, hrow⟩ := (Ow.rs O2.out).2 (by simp)
          simp only [Option.some.injEq, Addr.mk.injEq, and_true] at he
          obtain ⟨rfl, rfl⟩ := he
          exact ⟨l', hl2, _, c - 1, by rw [hl2], by omega, by omega, (by intro e; cases e), fun _ => ⟨g, 3, rfl, hk, by simpa using hrow.tail⟩, by intro x e; simp at e; subst e; exact Nat.le_trans hs1 hg⟩
      go_wp2
      go_ret
      obtain ⟨l', _, hd⟩ := DT.out
      exact ⟨_, l', rfl, hd, C2.out, G2.out⟩
    · by_cases h2 : x = 2
      · subst h2
        obtain ⟨g, c, hv, hg, hlc, hcm⟩ := O2.out.solid' (by rw [HL.out]; decide)
        rw [HL.out] at hv hlc
        subst hv
        have HGG := hid hg
        clear hg hlc hcm
        go_wp2_with fail
        refine (below4 cb ao n cap _ hn C2.out (HO.out.later G2.out) 3 (by decide) (by decide)).mono ?_; rintro e w3 ⟨y, hy, rfl, hc3, hg3⟩
        have C3 := hid hc3
        have G3 := hid (only_trans G2.out hg3)
        have O3 := hid (Ow.keep O2.out hg3 (by omega))
        clear hc3 hg3
        go_wp2_with fail
        refine (l03Reg_any cb ao n cap _ hn C3.out (HO.out.later G3.out)).mono ?_; rintro e w4 ⟨v4, t4, b4, rfl, hc4, hg4⟩
        have C4 := hid hc4
        have G4 := hid (only_trans G3.out hg4)
        have O4 := hid (Ow.keep O3.out hg4 (by omega))
        clear hc4 hg4
        have hyl : y < l.length := by rw [HL.out]; omega
        obtain ⟨x1, x2, x3, hc5, hf5⟩ := Ow.spot O4.out y hyl
        have HST := hid (Ow.stored O4.out y hyl (v4, t4, b4))
        have HNE : Hid (g ≠ cb) := by have := HGG.out; show _ ≠ _; omega
        have HWG : Hid (w.heap.size ≤ g) := Nat.le_trans hs1 HGG.out
        clear hyl
        go_wp2
        go_ret
        exact ⟨_, _, rfl, Dl.of HST.out (by simp [HL.out]) (by simp [HL.out]) hs1, ((C4.out.set HNE.out).set HNE.out).set HNE.out, gset (gset (gset G4.out HWG.out _ _) HWG.out _ _) HWG.out _ _⟩
      · go_wp2
        go_ret
        exact ⟨_, l, rfl, D2.out, C2.out, G2.out⟩

end Go.Proofs.Ytjnpohbljjlicab
