/- Another name, as the specification gives it. -/
import Derived.Test.YtanahkieondboaaDoorDecE
namespace Go.Proofs.YtanahkieondboaaDoor
open Go.RowKit Go.ChangeMaps

def on6 (nm : ByteArray) : ByteArray := if 6 < nm.size then nm.extract 0 6 else nm
def on5 (t : ByteArray) : ByteArray := if 5 < t.size then t.extract (t.size - 5) t.size else t
/-- The first six signs, x, and the last five figures of a Gid above 0. -/
def onm (nm : ByteArray) (g : Int) : ByteArray := on6 nm ++ ⟨#[120]⟩ ++ on5 (if 0 < g then ⟨(dg g.toNat).toArray⟩ else ⟨#[]⟩)

set_option maxHeartbeats 4000000 in
set_option maxRecDepth 100000 in
theorem specOther_any (nm : ByteArray) (g : Int) (w : World) (hn : nm.size ≤ 1048576) (h1 : g ≤ 9223372036854775807) :
    Calls Tryd.prog 5 #[.string nm, .int .i64 g] w fun e w' => e = .returned (.string (onm nm g)) ∧ Below w.heap.size w w' := by
  have s6 : (on6 nm).size ≤ 1048576 := by
    unfold on6
    split
    · rw [ByteArray.size_extract]; omega
    · exact hn
  by_cases hg : 0 < g
  · obtain ⟨n, rfl⟩ : ∃ n : Nat, g = (n : Int) := ⟨g.toNat, by omega⟩
    obtain ⟨t, ht⟩ : ∃ t : ByteArray, (⟨(dg n).toArray⟩ : ByteArray) = t := ⟨_, rfl⟩
    have hl : t.size ≤ 19 := by have := dg_len 18 n (by omega); rw [← ht]; show (dg n).toArray.size ≤ 19; simpa using this
    have hD := decimal_pos n w (by omega)
    have hO : onm nm n = on6 nm ++ ⟨#[120]⟩ ++ on5 t := by unfold onm; rw [if_pos hg, ← ht]; rfl
    rw [ht] at hD
    rw [hO]
    have HD := hide hD
    clear ht hD hO
    by_cases h6 : (6 : Int) < (nm.size : Int)
    all_goals by_cases h5 : (5 : Int) < (t.size : Int)
    all_goals
      obtain ⟨r, hr⟩ : ∃ r, Ending.returned (.string (on6 nm ++ ⟨#[120]⟩ ++ on5 t)) = r := ⟨_, rfl⟩
      have HR := hide hr
      rw [hr]
      clear hr s6
      go_enter Tryd.func5, Tryd.ntmps5
      go_wp2_with fail
      refine HD.out.mono ?_
      rintro e w' ⟨rfl, hb⟩
      have HB := hide hb
      clear hb
      go_wp2
      go_ret
      refine ⟨?_, HB.out⟩
      rw [← HR.out]
      unfold on6 on5
      first
        | (rw [if_pos (by omega), if_pos (by omega)]; rfl)
        | (rw [if_pos (by omega), if_neg (by omega)]; rfl)
        | (rw [if_neg (by omega), if_pos (by omega)]; rfl)
        | (rw [if_neg (by omega), if_neg (by omega)]; rfl)
  · have hO : onm nm g = on6 nm ++ ⟨#[120]⟩ ++ ⟨#[]⟩ := by unfold onm on5; rw [if_neg hg, if_neg (by decide)]
    rw [hO]
    clear hO
    by_cases h6 : (6 : Int) < (nm.size : Int)
    all_goals
      obtain ⟨r, hr⟩ : ∃ r, Ending.returned (.string (on6 nm ++ ⟨#[120]⟩ ++ ⟨#[]⟩)) = r := ⟨_, rfl⟩
      have HR := hide hr
      rw [hr]
      clear hr s6
      go_enter Tryd.func5, Tryd.ntmps5
      go_wp2
      go_ret
      refine ⟨?_, bre _⟩
      rw [← HR.out]
      unfold on6
      first
        | (rw [if_pos (by omega)]; rfl)
        | (rw [if_neg (by omega)]; rfl)
theorem onm_size (nm : ByteArray) (g : Int) (hn : nm.size ≤ 1048576) : (onm nm g).size ≤ 12 := by
  have h6 : (on6 nm).size ≤ 6 := by
    unfold on6
    split
    · rw [ByteArray.size_extract]; omega
    · omega
  have h5 : ∀ t : ByteArray, (on5 t).size ≤ 5 := by
    intro t
    unfold on5
    split
    · rw [ByteArray.size_extract]; omega
    · omega
  have := h5 (if 0 < g then ⟨(dg g.toNat).toArray⟩ else ⟨#[]⟩)
  unfold onm
  rw [ByteArray.size_append, ByteArray.size_append]
  have e : (⟨#[120]⟩ : ByteArray).size = 1 := rfl
  omega
end Go.Proofs.YtanahkieondboaaDoor
