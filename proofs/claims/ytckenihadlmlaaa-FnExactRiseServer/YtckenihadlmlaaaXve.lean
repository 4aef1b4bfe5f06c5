/- Servers: what the laws ask, and what an answer is. -/
import Derived.Test.YtckenihadlmlaaaXvd
namespace Go.Proofs.Ytckenihadlmlaaa
open Go.RowKit Go.ChangeMaps

/-- An argument, as it is opened. -/
structure In16 (w : World) (ba ga va : Option Addr) (bn gn vn : Nat) (S : List X7) (G V : List Int) (jr i o : ByteArray) : Prop where
  bl : S.length = bn
  bs : (bn : Int) ≤ 9223372036854775807
  ft : FitB S
  bm : Bs 0 w.heap.size w ba S
  gl : G.length = gn
  gs : (gn : Int) ≤ 9223372036854775807
  gi : Is 0 w.heap.size w ga G
  vl : V.length = vn
  vs : (vn : Int) ≤ 9223372036854775807
  vi : Is 0 w.heap.size w va V
  js : (jr.size : Int) ≤ 9223372036854775807
  is : (i.size : Int) ≤ 9223372036854775807
  os : (o.size : Int) ≤ 9223372036854775807
structure AnsV (wn W : World) (k : Nat) (y tm : Int) (bv gv : Value) (jr : ByteArray) (sv : Int) (i o : ByteArray) (n r : Bool) (b : Int) (vv : Value) (u : Bool) (S : List X7) (G V : List Int) : Prop where
  box : Vx W k 31 y tm bv gv jr sv i o n r b vv u
  le : wn.heap.size ≤ k
  own : ∃ B hi, OwR W B hi bv gv vv S G V ∧ wn.heap.size ≤ B ∧ hi ≤ W.heap.size ∧ (k < B ∨ hi ≤ k)
  bel : Below wn.heap.size wn W
theorem ansv_last {wn v : World} {B : Nat} {y tm : Int} {bv gv : Value} {jr : ByteArray} {sv : Int} {i o : ByteArray} {n r : Bool} {b : Int} {vv : Value} {u : Bool} {S : List X7} {G V : List Int} (ho : OwR v B v.heap.size bv gv vv S G V) (hB : wn.heap.size ≤ B) (hb : Below wn.heap.size wn v) :
    AnsV wn (v.alloc (.cells #[.int .i64 y, .int .i64 tm, bv, gv, .string jr, .int .i64 sv, .string i, .string o, .bool n, .bool r, .int .i64 b, vv, .bool u] 31)) v.heap.size y tm bv gv jr sv i o n r b vv u S G V :=
  ⟨Vx.new v _ _ _ _ _ _ _ _ _ _ _ _ _ _ , hb.size, ⟨B, v.heap.size, ho.later (bpush (bre _) _), hB, by simp, .inr (Nat.le_refl _)⟩, bpush hb _⟩
theorem Chg.below16 {P : Nat → Prop} {lo : Nat} {A B : World} (h : Chg P A B) (hl : lo ≤ A.heap.size) (hp : ∀ j, P j → lo ≤ j) : Below lo A B := ⟨h.os, h.tape, h.output, h.size, fun k hk => h.block k (by omega) (fun e => by have := hp k e; omega)⟩
/-- The argument, made the program's own, in any later world. -/
theorem toSv_in {w : World} {y tm : Int} {ba : Option Addr} {bn bc : Nat} {ga : Option Addr} {gn gc : Nat} {jr : ByteArray} {sv : Int} {i o : ByteArray} {n r : Bool} {b : Int} {va : Option Addr} {vn vc : Nat} {u : Bool} {S : List X7} {G V : List Int} (H : Sm16 bn gn vn S G V) (I : In16 w ba ga va bn gn vn S G V jr i o) (W : World) (hb : Below w.heap.size w W) :
    Calls Try.prog 13 #[svw y tm (.slice ba bn bc) (.slice ga gn gc) jr sv i o n r b (.slice va vn vc) u] W fun e w' => ∃ km kg kv, e = .returned (svw y tm (.slice (some ⟨km, 0, none⟩) bn bn) (.slice (some ⟨kg, 0, none⟩) gn gn) jr sv i o n r b (.slice (some ⟨kv, 0, none⟩) vn vn) u) ∧ OwR w' W.heap.size w'.heap.size (.slice (some ⟨km, 0, none⟩) bn bn) (.slice (some ⟨kg, 0, none⟩) gn gn) (.slice (some ⟨kv, 0, none⟩) vn vn) S G V ∧ Below W.heap.size W w' :=
  toSv_any _ _ _ _ _ _ y tm ba bn bc ga gn gc jr sv i o n r b va vn vc u S G V W H (I.bm.later hb) (I.gi.later hb) (I.vi.later hb) hb.size

end Go.Proofs.Ytckenihadlmlaaa
