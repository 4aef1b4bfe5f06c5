/- Mails joined. -/
import Derived.Test.YtegdejhgamkkbaaMailEq
import Derived.Test.YtegdejhgamkkbaaClone
import Derived.Lib.BufferMore
namespace Go.Proofs.Ytegdejhgamkkbaa
open Go.RowKit

/-- The greater text. -/
def mxs (x y : ByteArray) : ByteArray := if Op.bytesLess x.toList y.toList = true then y else x
theorem less_tri : ∀ (x y : List UInt8), Op.bytesLess x y = !(Op.bytesLess y x || y == x)
  | [], [] => rfl
  | _ :: _, [] => by simp [Op.bytesLess]
  | [], _ :: _ => by simp [Op.bytesLess]
  | a :: x, b :: y => by
    have ih := less_tri x y
    simp only [Op.bytesLess, List.cons_beq_cons]
    have h3 : a.toNat < b.toNat ∨ a.toNat = b.toNat ∨ b.toNat < a.toNat := by omega
    rcases h3 with h | h | h
    · have h1 : a < b := UInt8.lt_iff_toNat_lt.2 h
      have h2 : ¬ b < a := fun k => by have := UInt8.lt_iff_toNat_lt.1 k; omega
      have h4 : (b == a) = false := beq_eq_false_iff_ne.2 (fun e => by rw [e] at h; omega)
      simp [h1, h2, h4]
    · obtain rfl := UInt8.toNat_inj.1 h
      have h1 : ¬ a < a := fun k => by have := UInt8.lt_iff_toNat_lt.1 k; omega
      simp [h1, ih]
    · have h1 : b < a := UInt8.lt_iff_toNat_lt.2 h
      have h2 : ¬ a < b := fun k => by have := UInt8.lt_iff_toNat_lt.1 k; omega
      have h4 : (a == b) = false := beq_eq_false_iff_ne.2 (fun e => by rw [e] at h; omega)
      simp [h1, h2, h4]
theorem run_max_str {P : Program} (w : World) (ts : Array TypeId) (ty : TypeId) (x y : ByteArray) : (Builtin.max_ ts ty #[.string x, .string y]).run P w = .ok (.string (mxs x y)) w := by
  by_cases h : Op.bytesLess x.toList y.toList = true
  · simp [Builtin.max_, Builtin.max2, Op.stringOp, asBool, mxs, h]
  · simp [Builtin.max_, Builtin.max2, Op.stringOp, asBool, mxs, h]

end Go.Proofs.Ytegdejhgamkkbaa
