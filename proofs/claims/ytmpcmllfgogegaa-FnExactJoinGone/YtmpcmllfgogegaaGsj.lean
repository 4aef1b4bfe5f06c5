/- Numbers sorted by the library's own sort. -/
import Derived.Test.YtmpcmllfgogegaaGfi
import Derived.Shelf.SlSortCmp.NoneTotal
namespace Go.Proofs.Ytmpcmllfgogegaa
open Go.RowKit Go.Shelf Go.ChangeMaps

theorem lt_cpr (x y : Int) : Go.Proofs.ltOf cpr x y = decide (x < y) := cpr_less x y
theorem swo_cpr : Go.Sort.SWO (Go.Proofs.ltOf cpr) where
  irrefl x := by rw [lt_cpr]; simp
  trans x y z h1 h2 := by rw [lt_cpr] at *; simp at *; omega
  ntrans x y z h1 h2 := by rw [lt_cpr] at *; simp at *; omega

theorem sortWorld_at {α : Type} [Inhabited α] {enc : α → Value} {w : World} {blk off m k : Nat} {dk : Array α} {os : Array Obj} (h : k < w.heap.size) (hne : k ≠ blk) : (sortWorld enc w blk off m dk os).heap[k]? = w.heap[k]? := by
  unfold sortWorld
  rw [Go.Sort.heap_grow_old _ _ (by simpa using h)]
  simp [Go.Sort.putRow, Go.Sort.mapBlock, Go.Sort.ahead, Array.getElem?_modify, Ne.symm hne]

theorem sorti_any (B kb : Nat) (v : Value) (G : List Int) (w : World) (hn : G.length ≤ 4194304) (hrow : OwI w B v G) (hk : Kd w kb 32 12 13) (hkb : v.ownBlock ≠ some kb) :
    Calls Try.prog 24 #[v, .func (.func 20) #[] #[.pointer (some ⟨kb, 0, none⟩)]] w fun e w' =>
      (∃ u, e = .returned u) ∧ ∃ G' : List Int, G'.Perm G ∧ G'.Pairwise (· ≤ ·) ∧ OwI w' B v G' ∧ w.grownBy w' v.ownBlock := by
  have eg : ∀ args w, (callFunc 20 args).run Try.prog w = .ok (.enter 20 args) w := enters_of Try.func20 (by kernel_rfl) rfl
  rcases hrow.2 with ⟨h1, h2⟩ | ⟨g, cap, cur, h1, h2, h3, h4, h5, h6, h7⟩
  · obtain rfl : G = [] := List.eq_nil_of_length_eq_zero h2
    subst h1
    have hc := Go.Proofs.AnyF.slices_SortFunc_none (P := Try.prog) (ρ := sortI_ren) { sortI with } none 0 (.func (.func 20) #[] #[.pointer (some ⟨kb, 0, none⟩)]) w
    refine Calls.mono hc ?_
    rintro e w' ⟨rfl, rfl⟩
    exact ⟨⟨_, rfl⟩, [], List.Perm.refl _, List.Pairwise.nil, hrow, ⟨rfl, rfl, rfl, Nat.le_refl _, fun _ _ _ => rfl⟩⟩
  · subst h1
    have hlt := (Array.getElem?_eq_some_iff.1 h3).1
    have hkg : kb ≠ g := fun e => hkb (by rw [e]; rfl)
    have hH := holds_of_blockI (ss := G) h3 (by rw [← h7, Nat.mul_one])
    have hcmp : Go.Proofs.CmpLays1 Try.prog 20 #[.pointer (some ⟨kb, 0, none⟩)] (Value.int .i64) cpr g 0 G.toArray.size w := by
      intro m os dk _ x y
      refine (cmpi_any kb x y _ ?_).mono ?_
      · exact (sortWorld_at hk.lt hkg).trans hk
      · rintro e w' ⟨rfl, q, rfl⟩
        exact ⟨rfl, q, #[], by rw [Go.Sort.grow_empty]⟩
    have hc := Go.Proofs.Any.slices_SortFunc sortI (Value.int .i64) (fun _ => rfl) cpr swo_cpr 20 #[.pointer (some ⟨kb, 0, none⟩)] g 0 cap G.toArray w eg hcmp hH hlt (by simp; omega)
    have hsz : G.toArray.size = G.length := by simp
    refine Calls.mono (show Calls Try.prog 24 #[.slice (some ⟨g, 0, none⟩) G.length cap, _] w _ from hc) ?_
    rintro e w' ⟨rfl, d', n, os, hp, hs, rfl⟩
    refine ⟨⟨_, rfl⟩, d'.toList, ?_, ?_, ?_, ?_⟩
    · have hp3 := hp.2.2
      have e1 : d'.extract 0 G.toArray.size = d' := by rw [← hp.1]; simp
      have e2 : G.toArray.extract 0 G.toArray.size = G.toArray := by simp
      rw [e1, e2] at hp3
      exact hp3
    · rw [List.pairwise_iff_getElem]
      intro i j hi hj hij
      have hj' : j < d'.size := by simpa using hj
      have hi' : i < d'.size := by omega
      have h8 := hs i j (Nat.zero_le _) hij (by rw [← hp.1]; exact hj')
      rw [lt_cpr, getElem!_pos d' i hi', getElem!_pos d' j hj'] at h8
      have h9 : ¬ d'[j] < d'[i] := by simpa using h8
      simpa using h9
    · have hl : d'.toList.length = G.length := by rw [Array.length_toList, hp.1, hsz]
      have h8 := ownsRow_sortedI (w := w) (base := B) (g := g) (cap := cap) (n := n) (os := os) (ss := G) (ts := d'.toList) hl h2 h3 h4 h5 h6
      rw [Array.toArray_toList] at h8
      show World.ownsRow _ _ _ _ _ _ _
      rw [hl]
      exact h8
    · exact grownBy_sortedI d'
end Go.Proofs.Ytmpcmllfgogegaa
