/- Mails as the laws hand them over; held against each other; marked. -/
import Derived.Test.YtjnpohbljjlicabMail
namespace Go.Proofs.Ytjnpohbljjlicab
open Go.RowKit

/-- Three blocks: a mail as it came in, and two that are new. -/
theorem three_mails (w : World) (ta tb tc : Nat) (g u g1 u1 g2 u2 : Int) (f f1 f2 : Value) (t t1 t2 : ByteArray) (W0 : World) (h : (((w.alloc (.cells #[.int .i64 g, .int .i64 u, f, .string t] ta)).alloc (.cells #[.int .i64 g1, .int .i64 u1, f1, .string t1] tb)).alloc (.cells #[.int .i64 g2, .int .i64 u2, f2, .string t2] tc)) = W0) :
    Mg W0 w.heap.size ta g u f t ∧ Mg W0 (w.heap.size + 1) tb g1 u1 f1 t1 ∧ Mg W0 (w.heap.size + 1 + 1) tc g2 u2 f2 t2 ∧ Below w.heap.size w W0 := by
  subst h
  exact ⟨(Mg.new w ta g u f t).later (bpush (bpush (bre _) _) _), Mg.later (by simpa using Mg.new (w.alloc (.cells #[.int .i64 g, .int .i64 u, f, .string t] ta)) tb g1 u1 f1 t1) (bpush (bre _) _),
    by simpa using Mg.new ((w.alloc (.cells #[.int .i64 g, .int .i64 u, f, .string t] ta)).alloc (.cells #[.int .i64 g1, .int .i64 u1, f1, .string t1] tb)) tc g2 u2 f2 t2, bpush (bpush (bpush (bre _) _) _) _⟩

/-- Two blocks: two mails. -/
theorem two_mails (w : World) (ta tb : Nat) (g u g1 u1 : Int) (f f1 : Value) (t t1 : ByteArray) (W0 : World) (h : ((w.alloc (.cells #[.int .i64 g, .int .i64 u, f, .string t] ta)).alloc (.cells #[.int .i64 g1, .int .i64 u1, f1, .string t1] tb)) = W0) :
    Mg W0 w.heap.size ta g u f t ∧ Mg W0 (w.heap.size + 1) tb g1 u1 f1 t1 ∧ Below w.heap.size w W0 := by
  subst h
  exact ⟨(Mg.new w ta g u f t).later (bpush (bre _) _), by simpa using Mg.new (w.alloc (.cells #[.int .i64 g, .int .i64 u, f, .string t] ta)) tb g1 u1 f1 t1, bpush (bpush (bre _) _) _⟩

end Go.Proofs.Ytjnpohbljjlicab
