/- What comes of FlagMail, in letters. -/
import Derived.Test.YtfmacodnjhegcamGreatFlagI
namespace Go.Proofs.YtfmacodnjhegcamGreat
open Go.RowKit Go.ChangeMaps

theorem flag_pair (g : Int) (nm : ByteArray) (t b nx : Int) (mn gn : Nat) (L : List M4) (G : List Int) (gid n st sb : Int) (hnm : nm.size ≤ 1048576) (hl : L.length = mn) (hn : mn ≤ 1048576) (hsm : Sm L) (hfz : fz L ≤ 1048576) (hgl : G.length = gn) (hgn : gn ≤ 1048576) :
    ∃ (p : Bool) (ny : Int) (K : List M4) (H : List Int) (N M : Nat), (K.length = N ∧ N ≤ 1048576 ∧ Sm K ∧ 1 + 3 * fz K ≤ 4194304) ∧ (H.length = M ∧ M ≤ 1048576) ∧ Hid (∀ (lo hh lo' hh' km kg : Nat) (w : World), Ms lo hh w (some ⟨km, 0, none⟩) L → Is lo' hh' w (some ⟨kg, 0, none⟩) G → Calls Tryz.prog 6 #[.agg #[.int .i64 g, .string nm, .int .i64 t, .int .i64 b, .int .i64 nx, .slice (some ⟨km, 0, none⟩) mn mn, .slice (some ⟨kg, 0, none⟩) gn gn], .int .i64 gid, .int .i64 n, .agg #[.int .i64 st, .int .i64 sb]] w fun e w' => ∃ a c a' c', e = .returned (.tuple #[.agg #[.int .i64 g, .string nm, .int .i64 t, .int .i64 b, .int .i64 ny, .slice a N c, .slice a' M c'], .bool p]) ∧ OwB w' w.heap.size (.slice a N c) (.slice a' M c') K H ∧ Below w.heap.size w w') ∧ Hid (∀ (lo hh lo' hh' km kg : Nat) (w : World), Ms lo hh w (some ⟨km, 0, none⟩) L → Is lo' hh' w (some ⟨kg, 0, none⟩) G → Calls Tryz.prog 9 #[.agg #[.int .i64 g, .string nm, .int .i64 t, .int .i64 b, .int .i64 nx, .slice (some ⟨km, 0, none⟩) mn mn, .slice (some ⟨kg, 0, none⟩) gn gn], .int .i64 gid, .int .i64 n, .agg #[.int .i64 st, .int .i64 sb]] w fun e w' => ∃ a c a' c', e = .returned (.tuple #[.agg #[.int .i64 g, .string nm, .int .i64 t, .int .i64 b, .int .i64 ny, .slice a N c, .slice a' M c'], .bool p]) ∧ OwB w' w.heap.size (.slice a N c) (.slice a' M c') K H ∧ Below w.heap.size w w') := by
  refine ⟨fmOk g nm t b nx L G gid n st sb, nx, fmL (fmOk g nm t b nx L G gid n st sb) L gid n st sb, G, mn, gn, ⟨?_, hn, fm_sm _ hsm, ?_⟩, ⟨hgl, hgn⟩, ?_, ?_⟩
  · rw [fmL_len, hl]
  · rw [fm_fz]; omega
  all_goals
    intro lo hh lo' hh' km kg w hm hs
    first
      | refine (specFlag_any lo hh lo' hh' g nm t b nx _ mn mn _ gn gn L G gid n st sb w hnm hl hn hsm hm hgl hgn hs (by intro h; cases h)).mono ?_
      | refine (implFlag_any lo hh lo' hh' g nm t b nx _ mn mn _ gn gn L G gid n st sb w hnm hl hn hsm hm (by intro h; cases h) hgl hgn hs (by intro h; cases h)).mono ?_
    rintro e w' ⟨mv, gv, rfl, ho, hb⟩
    obtain ⟨Z, hZ, h2, h3, h4⟩ := ho
    obtain ⟨a, c, hv⟩ := h2.shape
    obtain ⟨a', c', hv', _⟩ := h3.shape
    have hlen := congrArg List.length hZ
    rw [List.length_map, fmL_len, hl] at hlen
    rw [hlen] at hv
    rw [hgl] at hv'
    subst hv
    subst hv'
    exact ⟨a, c, a', c', rfl, ⟨Z, hZ, h2, h3, h4⟩, hb⟩
end Go.Proofs.YtfmacodnjhegcamGreat
