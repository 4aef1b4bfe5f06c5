/- Drawn sums' texts and drawn places. -/
import Derived.Test.YtdpabaebbdhmmaaDrawB
namespace Go.Proofs.Ytdpabaebbdhmmaa
open Go.RowKit

theorem Try.info3 : (Try.prog.info? 3).map (fun i => (i.zero, i.size, i.bytes)) = some (some (.int .i64 0), 1, 8) := by kernel_rfl

/-- A number as an int's cell. -/
def ic (z : Nat) : Value := .int .i64 (z : Int)

theorem wpList_append_nat {P : Program} (w : World) {ops : Array Oper} {rest : List Oper} {o : Oper} {a : Act} {Q : Exit → Act → World → Prop} (hgd : o.guard = none) (s x : Operand) (t : TypeId)
    (ho : o.op = .call { callee := .builtin .append, args := #[s, x], argTypes := #[t, t] })
    (base : Nat) (e : TypeId) (hinfo : (P.info? e).map (fun i => (i.zero, i.size, i.bytes)) = some (some (.int .i64 0), 1, 8)) (ht : P.underlying t = some (.slice e))
    (v : Value) (bs : List Nat) (hs : a.eval s = v) (hown : w.ownsRow base e 1 v bs.length (bs.map ic)) (n : Int) (b : Nat) (hb : n = (b : Int))
    (hx : a.eval x = .slice (some ⟨w.heap.size, 0, none⟩) 1 1) (hlen : bs.length ≤ 1000000) (hbase : base ≤ w.heap.size)
    (h : ∀ v' w', w'.ownsRow base e 1 v' (bs ++ [b]).length ((bs ++ [b]).map ic) → Below base w w' → wpList P ops Q rest (a.put o.dst v') w') :
    wpList P ops Q (o :: rest) a (w.alloc (.cells #[.int .i64 n] e)) := by
  obtain ⟨i0, hi, hz0, hz1, hz2⟩ := info_parts hinfo
  subst hb
  refine wpList_append_own _ hgd s x t ho base e i0 (.int .i64 0) 1 8 ht hi hz0 hz1 hz2 rfl (by decide) v _ _ hs (hown.alloc _) ⟨w.heap.size, 0, none⟩ 1 1 [ic b] hx rfl (cell_one_new _ _ _) (by intro u hu; simp at hu; subst hu; rfl) (by unfold maxLen; omega) (by omega) (by simp; omega) ?_
  intro v' w' hown' hg _
  refine h v' w' (by simpa using hown') (((Below.refl base w).alloc hbase _).grown hg (by simp; omega) (fun k hk => (hown.lt k hk).1))

/-- The first two of a row of twelve. -/
theorem row_two {w : World} {base : Nat} {v : Value} {zs : List Nat} (h : w.ownsRow base 3 1 v zs.length (zs.map ic)) (hl : zs.length = 12) (hz : ∀ z ∈ zs, z < 10000) :
    ∃ g cp x y : Nat, v = .slice (some ⟨g, 0, none⟩) 12 cp ∧ g < w.heap.size ∧ w.cell? ⟨g, 0, none⟩ = some (.int .i64 (x : Int)) ∧ w.cell? ⟨g, 1, none⟩ = some (.int .i64 (y : Int)) ∧ x < 10000 ∧ y < 10000 := by
  have h' := h
  rcases h.2 with ⟨_, h0⟩ | ⟨g, cp, cur, rfl, hb, hg, _⟩
  · omega
  · have c0 := h'.cells (g := g) rfl 0 (ic zs[0]) (by rw [List.getElem?_map, List.getElem?_eq_getElem (by omega)]; rfl)
    have c1 := h'.cells (g := g) rfl 1 (ic zs[1]) (by rw [List.getElem?_map, List.getElem?_eq_getElem (by omega)]; rfl)
    exact ⟨g, cp, zs[0], zs[1], by rw [hl], (Array.getElem?_eq_some_iff.1 hg).1, by simpa [Addr.add, ic] using c0, by simpa [Addr.add, ic] using c1, hz _ (List.getElem_mem _), hz _ (List.getElem_mem _)⟩

set_option maxHeartbeats 400000 in
set_option maxRecDepth 100000 in
theorem drawPlaces_any (ao : Option Addr) (n cap : Nat) (w : World) (hn : n ≤ 1048576) (hcode : Code w w.heap.size ao n) :
    Calls Try.prog 20 #[.slice ao n cap] w fun e w' => ∃ (g cp x y : Nat), e = .returned (.slice (some ⟨g, 0, none⟩) 12 cp) ∧ g < w'.heap.size ∧ w'.cell? ⟨g, 0, none⟩ = some (.int .i64 (x : Int)) ∧ w'.cell? ⟨g, 1, none⟩ = some (.int .i64 (y : Int)) ∧ x < 10000 ∧ y < 10000 ∧ Below w.heap.size w w' := by
  have HO := hide hcode
  clear hcode
  go_enter Try.func20, Try.ntmps20
  go_wp2_with fail
  refine (new_any ao n cap _ hn (unhide HO)).mono ?_; rintro e w1 ⟨rfl, hc1, ho1, hb1⟩
  have HC1 := hide hc1
  have HO1 := hide ho1
  have hs1 := hc1.lt
  clear hc1 ho1
  go_wp2_with fail
  refine (byte_any w.heap.size ao n cap _ hn (unhide HC1) (unhide HO1)).mono ?_; rintro e w2 ⟨x0, hx0, rfl, hc2, hb2⟩
  have HC2 := hide hc2
  have HO2 := hide ((unhide HO1).later hb2)
  have hb12 : Below w.heap.size w w2 := hb1.trans (only_below hb2 (Nat.le_refl _) hb1.size)
  have hs2 := hc2.lt
  clear hc2
  go_wp2
  go_loopw [4, 5] (fun v iv wr => ∃ (k : Nat) (zs : List Nat), k ≤ 12 ∧ zs.length = k ∧ (∀ z ∈ zs, z < 10000) ∧ iv = .int .i64 (k : Int) ∧ wr.ownsRow w2.heap.size 3 1 v zs.length (zs.map ic) ∧ Cur wr w.heap.size ao n cap ∧ w2.grownBy wr (some w.heap.size)) (fun _ iv _ => 12 - (intOf iv).toNat)
  case atStart => exact ⟨0, [], Nat.zero_le _, rfl, by simp, rfl, World.ownsRow_made w2 #[] 0 (Nat.le_refl _) (by decide) rfl, (unhide HC2).alloc _, World.grownBy_alloc _ _ _⟩
  case round =>
    obtain ⟨k, zs, hk, hzl, hzs, rfl, hown, hcu, hg⟩ := hrel
    have HZL := hide hzl
    have HZS := hide hzs
    have HCU := hide hcu
    have HOWN := hide hown
    have HG := hide hg
    have hsz := hg.size
    clear hzl hzs hcu hown hg
    by_cases hlt : k < 12
    · go_wp2_with fail
      refine (below4 w.heap.size ao n cap _ hn (unhide HCU) ((unhide HO2).later (unhide HG)) 10000 (by omega) (by omega)).mono ?_; rintro e w3 ⟨x, hx, rfl, hc3, hb3⟩
      have hown3 : w3.ownsRow w2.heap.size 3 1 _ zs.length (zs.map ic) := (unhide HOWN).kept hb3 (by
        cases hv : Value.ownBlock _ with
        | none => left; rfl
        | some b => right; have := ((unhide HOWN).lt b hv).1; simp; omega)
      have HC3 := hide hc3
      have hs3 := hb3.size
      clear hc3
      go_wp2_with (at_builtin; refine wpList_append_nat w3 rfl (.tmp 15) (.tmp 18) 42 rfl w2.heap.size 3 Try.info3 Try.underlying42 _ zs (by rfl) hown3 _ x rfl rfl (by have := unhide HZL; omega) (by omega) ?_; rotate_right; intro v4 w4 hown4 hb4)
      go_roundw
      case rel => exact ⟨k + 1, zs ++ [x], hlt, by simp [unhide HZL], by intro z hz; simp at hz; rcases hz with hz | rfl; exact unhide HZS z hz; omega, by go_num, hown4, (unhide HC3).later hb4 hs2, only_add (only_trans (unhide HG) hb3) hb4⟩
      case measure => simp [intOf]; omega
    · have h12 : zs.length = 12 := by have := unhide HZL; omega
      obtain ⟨g, cp, x, y, rfl, hg, c0, c1, hx, hy⟩ := row_two (unhide HOWN) h12 (unhide HZS)
      go_wp2
      go_ret
      exact ⟨g, cp, x, y, rfl, hg, c0, c1, hx, hy, hb12.trans (only_below (unhide HG) (Nat.le_refl _) hb12.size)⟩
end Go.Proofs.Ytdpabaebbdhmmaa
