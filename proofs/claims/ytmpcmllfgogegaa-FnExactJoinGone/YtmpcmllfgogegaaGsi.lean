/- Numbers sorted by the library's own sort, as what is joined asks for it. -/
import Derived.Test.YtmpcmllfgogegaaSlf
import Derived.Test.YtmpcmllfgogegaaItz
import Derived.Sort.OwnSortedInts
namespace Go.Proofs.Ytmpcmllfgogegaa
open Go.RowKit Go.Shelf Go.ChangeMaps

/-- A block of two function values. -/
abbrev Kd (W : World) (k ty f g : Nat) : Prop := W.heap[k]? = some (.cells #[.func (.func f) #[] #[], .func (.func g) #[] #[]] ty)
theorem Kd.cells {W : World} {k ty f g : Nat} (h : Kd W k ty f g) : W.cell? ⟨k, 0, none⟩ = some (.func (.func f) #[] #[]) ∧ W.cell? ⟨k, 1, none⟩ = some (.func (.func g) #[] #[]) :=
  ⟨cell_of_row _ _ 0 _ _ _ h, cell_of_row _ _ 1 _ _ _ h⟩
theorem Kd.lt {W : World} {k ty f g : Nat} (h : Kd W k ty f g) : k < W.heap.size := (Array.getElem?_eq_some_iff.1 h).1
theorem Kd.later {W W' : World} {k ty f g : Nat} (h : Kd W k ty f g) (hb : Below W.heap.size W W') : Kd W' k ty f g := (hb.block k h.lt).trans h

theorem nmi_any (x : Int) (w : World) : Calls Try.prog 12 #[.int .i64 x] w fun e w' => e = .returned (.int .i64 x) ∧ w' = w := by
  go_enter Try.func12, Try.ntmps12
  go_wp2
  go_ret
  exact ⟨rfl, rfl⟩
theorem jni_any (x y : Int) (w : World) : Calls Try.prog 13 #[.int .i64 x, .int .i64 y] w fun e w' => e = .returned (.int .i64 x) ∧ w' = w := by
  go_enter Try.func13, Try.ntmps13
  go_wp2
  go_ret
  exact ⟨rfl, rfl⟩

set_option maxRecDepth 100000 in
theorem cmpi_any (kb : Nat) (x y : Int) (w : World) (hk : Kd w kb 32 12 13) :
    Calls Try.prog 20 #[.int .i64 x, .int .i64 y, .pointer (some ⟨kb, 0, none⟩)] w fun e w' => e = .returned (.int .i64 (cpr x y)) ∧ ∃ q, w' = w.drewN q := by
  have eg : ∀ args w, (callFunc 12 args).run Try.prog w = .ok (.enter 12 args) w := enters_of Try.func12 (by kernel_rfl) rfl
  have c0 := hk.cells.1
  obtain ⟨q, hq⟩ : ∃ q, cpr x y = q := ⟨_, rfl⟩
  have HQ := hid hq
  rw [hq]
  clear hq hk
  go_enter Try.func20, Try.ntmps20
  go_wp2_with fail
  go_region_held3 (fun W => W.cell? ⟨kb, 0, none⟩ = some (.func (.func 12) #[] #[]))
    (exact c0)
    (first
      | (go_at_call 12; refine (nmi_any _ _).mono ?_; rintro e w1 ⟨rfl, h⟩; subst h)
      | (go_at_call 21; refine (compare_any _ _ _).mono ?_; rintro e w1 ⟨rfl, h⟩; subst h; rw [HQ.out]))
  all_goals
    go_wp2
    go_ret
    exact ⟨rfl, _, rfl⟩
end Go.Proofs.Ytmpcmllfgogegaa
