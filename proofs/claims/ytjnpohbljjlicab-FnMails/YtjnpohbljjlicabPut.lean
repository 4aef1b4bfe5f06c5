/- Registers: put; as the laws hand them over and hold them against each other. -/
import Derived.Test.YtjnpohbljjlicabRegs
namespace Go.Proofs.Ytjnpohbljjlicab
open Go.RowKit

def preg (v t b n t' b' : Int) : Value := if (rgOk n t' b' && later t' b' t b) = true then rgv n t' b' else rgv v t b

theorem right_letter (v t b : Int) : ∃ p : Bool, Hid (p = rgOk v t b) ∧ Hid (∀ w, Calls Try.prog 69 #[.agg #[.int .i64 t, .int .i64 b, .int .i64 v]] w fun e w' => e = .returned (.bool p) ∧ w' = (w.alloc (.cells #[.int .i64 t, .int .i64 b, .int .i64 v] 96)).alloc (.cells #[.int .i64 t, .int .i64 b] 45)) := ⟨_, rfl, right_any v t b⟩
theorem laterThan_letter (t b t' b' : Int) : ∃ p : Bool, Hid (p = later t b t' b') ∧ Hid (∀ w, Calls Try.prog 77 #[.agg #[.int .i64 t, .int .i64 b], .agg #[.int .i64 t', .int .i64 b']] w fun e w' => e = .returned (.bool p) ∧ w' = (w.alloc (.cells #[.int .i64 t, .int .i64 b] 45)).alloc (.cells #[.int .i64 t', .int .i64 b'] 45)) := ⟨_, rfl, laterThan_any t b t' b'⟩
theorem specLater_letter (t b t' b' : Int) : ∃ p : Bool, Hid (p = later t b t' b') ∧ Hid (∀ w, Calls Try.prog 71 #[.agg #[.int .i64 t, .int .i64 b], .agg #[.int .i64 t', .int .i64 b']] w fun e w' => e = .returned (.bool p) ∧ w' = (w.alloc (.cells #[.int .i64 t, .int .i64 b] 45)).alloc (.cells #[.int .i64 t', .int .i64 b'] 45)) := ⟨_, rfl, specLater_any t b t' b'⟩
theorem specRegOk_letter (v t b : Int) : ∃ p : Bool, Hid (p = rgOk v t b) ∧ Hid (∀ w, Calls Try.prog 55 #[.agg #[.int .i64 v, .int .i64 t, .int .i64 b]] w fun e w' => e = .returned (.bool p) ∧ w' = (w.alloc (.cells #[.int .i64 v, .int .i64 t, .int .i64 b] 47)).alloc (.cells #[.int .i64 t, .int .i64 b] 45)) := ⟨_, rfl, specRegOk_any v t b⟩
end Go.Proofs.Ytjnpohbljjlicab
