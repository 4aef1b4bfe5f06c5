/- The four bytes of a sum. -/
import Derived.Test.YtjjbjpilheedjaaDoorSum
namespace Go.Proofs.YtjjbjpilheedjaaDoor
open Go.RowKit

theorem f4_conv (x : Nat) (w : World) (hx : x < 4294967296) :
    (convert 22 9 (.slice (some ⟨w.heap.size, 0, none⟩) 4 4)).run Tryd.prog (w.alloc (.cells #[.int .u8 ((x : Int) / 16777216), .int .u8 ((x : Int) / 65536 % 256), .int .u8 ((x : Int) / 256 % 256), .int .u8 ((x : Int) % 256)] 5)) = .ok (.string ⟨(f4 x).toArray⟩) (w.alloc (.cells #[.int .u8 ((x : Int) / 16777216), .int .u8 ((x : Int) / 65536 % 256), .int .u8 ((x : Int) / 256 % 256), .int .u8 ((x : Int) % 256)] 5)) := by
  refine run_convert_bytes_back (P := Tryd.prog) _ 22 9 5 ⟨w.heap.size, 0, none⟩ 4 (f4 x) Tryd.underlying22 Tryd.underlying5 Tryd.underlying9 (fun j hj => ?_)
  have hj' : j < 4 := hj
  have key : ∀ (i : Nat) (v : Value), (#[.int .u8 ((x : Int) / 16777216), .int .u8 ((x : Int) / 65536 % 256), .int .u8 ((x : Int) / 256 % 256), .int .u8 ((x : Int) % 256)] : Array Value)[i]? = some v →
      (w.alloc (.cells #[.int .u8 ((x : Int) / 16777216), .int .u8 ((x : Int) / 65536 % 256), .int .u8 ((x : Int) / 256 % 256), .int .u8 ((x : Int) % 256)] 5)).cell? ((⟨w.heap.size, 0, none⟩ : Addr).add i) = some v := by
    intro i v h
    rw [show (⟨w.heap.size, 0, none⟩ : Addr).add i = ⟨w.heap.size, i, none⟩ from by by_cases h0 : i = 0 <;> simp [Addr.add, h0]]
    rw [cell_of_row _ w.heap.size i _ _ (0, 0) (heap_alloc_new w _)]
    exact h
  match j, hj' with
  | 0, _ => exact key 0 _ (congrArg some (congrArg (Value.int .u8) (by show (x : Int) / 16777216 = ((UInt8.ofNat (x / 16777216)).toNat : Nat); rw [u8_of]; omega)))
  | 1, _ => exact key 1 _ (congrArg some (congrArg (Value.int .u8) (by show (x : Int) / 65536 % 256 = ((UInt8.ofNat (x / 65536)).toNat : Nat); rw [u8_of]; omega)))
  | 2, _ => exact key 2 _ (congrArg some (congrArg (Value.int .u8) (by show (x : Int) / 256 % 256 = ((UInt8.ofNat (x / 256)).toNat : Nat); rw [u8_of]; omega)))
  | 3, _ => exact key 3 _ (congrArg some (congrArg (Value.int .u8) (by show (x : Int) % 256 = ((UInt8.ofNat x).toNat : Nat); rw [u8_of]; omega)))

theorem implBytes_any (x : Nat) (w : World) (hx : x < 4294967296) :
    Calls Tryd.prog 32 #[.int .u32 (x : Int)] w fun e w' => e = .returned (.string ⟨(f4 x).toArray⟩) ∧ Below w.heap.size w w' := by
  have hcv := f4_conv x w hx
  go_enter Tryd.func32, Tryd.ntmps32
  go_wp2
  go_ret
  exact ⟨rfl, (Below.refl _ _).alloc (Nat.le_refl _) _⟩
end Go.Proofs.YtjjbjpilheedjaaDoor
