/- Drawn texts. -/
import Derived.Test.YtdpabaebbdhmmaaDraw
namespace Go.Proofs.Ytdpabaebbdhmmaa
open Go.RowKit

theorem ret_str' {a b : ByteArray} (h : a = b) : Ending.returned (.string a) = .returned (.string b) := by rw [h]

theorem only_add {w w1 w2 : World} {cb : Nat} (h : w.grownBy w1 (some cb)) (k : Below w.heap.size w1 w2) : w.grownBy w2 (some cb) :=
  ⟨k.os.trans h.os, k.tape.trans h.tape, k.output.trans h.output, Nat.le_trans h.size k.size, fun i hi hr => (k.block i hi).trans (h.block i hi hr)⟩
theorem Cur.later {w1 w2 : World} {B cb n cap : Nat} {ao : Option Addr} (h : Cur w1 cb ao n cap) (k : Below B w1 w2) (hB : cb < B) : Cur w2 cb ao n cap := by
  obtain ⟨i, x, h1, h2⟩ := h
  exact ⟨i, x, h1, by rw [k.block cb hB]; exact h2⟩

end Go.Proofs.Ytdpabaebbdhmmaa
