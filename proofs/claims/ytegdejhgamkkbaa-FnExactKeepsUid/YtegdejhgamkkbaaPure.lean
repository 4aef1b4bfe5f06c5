/- Plain lists and numbers for the statements of this seat: the bytes of a number in sevens, and what a row of bytes owned by the call reads as a string. -/
import Derived.WalkKit
import Derived.Laws.IdiomStrings
import Derived.WalkSpells
namespace Go.Proofs.Ytegdejhgamkkbaa
open Go.RowKit

theorem hide {p : Prop} (h : p) : Hid p := h
theorem unhide {p : Prop} (h : Hid p) : p := h

theorem ret_int {k : IntKind} {a b : Int} (h : a = b) : Ending.returned (.int k a) = .returned (.int k b) := by rw [h]

/-- A byte as a value. -/
def bv (b : UInt8) : Value := .int .u8 (b.toNat : Int)

/-- The bytes of a number, seven bits each, the lowest first; at most f + 1 of them. -/
def vbsF : Nat → Nat → List UInt8
  | 0, n => [UInt8.ofNat n]
  | f + 1, n => if 127 < n then UInt8.ofNat (n % 128 + 128) :: vbsF f (n / 128) else [UInt8.ofNat n]

theorem vbsF_any : ∀ (f g n : Nat), n ≤ f → n ≤ g → vbsF f n = vbsF g n
  | 0, 0, _, _, _ => rfl
  | 0, g + 1, n, h, _ => by simp only [vbsF]; rw [if_neg (by omega)]
  | f + 1, 0, n, _, h => by simp only [vbsF]; rw [if_neg (by omega)]
  | f + 1, g + 1, n, h1, h2 => by
    simp only [vbsF]
    by_cases h : 127 < n
    · rw [if_pos h, if_pos h, vbsF_any f g (n / 128) (by omega) (by omega)]
    · rw [if_neg h, if_neg h]

/-- The bytes of a number, seven bits each, the lowest first. -/
def vbs (n : Nat) : List UInt8 := vbsF n n

theorem vbs_big (n : Nat) (h : 127 < n) : vbs n = UInt8.ofNat (n % 128 + 128) :: vbs (n / 128) := by
  unfold vbs
  obtain ⟨k, rfl⟩ : ∃ k, n = k + 1 := ⟨n - 1, by omega⟩
  rw [vbsF, if_pos h, vbsF_any k ((k + 1) / 128) ((k + 1) / 128) (by omega) (Nat.le_refl _)]
theorem vbs_small (n : Nat) (h : ¬ 127 < n) : vbs n = [UInt8.ofNat n] := by
  unfold vbs
  cases n with
  | zero => rfl
  | succ k => rw [vbsF, if_neg h]
theorem vbs_len (n : Nat) : (vbs n).length ≤ n + 1 := by
  induction n using Nat.strongRecOn with
  | _ n ih =>
    by_cases h : 127 < n
    · rw [vbs_big n h]; have := ih (n / 128) (by omega); simp; omega
    · rw [vbs_small n h]; simp

/-- What a row of bytes that the call owns reads as. -/
theorem run_string_own {P : Program} (w : World) (src dst e : TypeId) (hs : P.underlying src = some (.slice e)) (he : P.underlying e = some (.int .u8)) (hd : P.underlying dst = some .string)
    {base n : Nat} {v : Value} (bs : List UInt8) (h : w.ownsRow base e 1 v n (bs.map bv)) :
    (convert src dst v).run P w = .ok (.string ⟨bs.toArray⟩) w := by
  have hl : bs.length = n := by simpa using h.1
  rcases h.2 with ⟨rfl, hn⟩ | ⟨g, cap, cur, rfl, _, hg, _, _, _, _⟩
  · have : bs = [] := List.eq_nil_of_length_eq_zero (by omega)
    subst this
    rw [run_convert_bytes_string w src dst e none 0 0 hs he hd]; rfl
  · subst hl
    refine run_convert_bytes_back w src dst e ⟨g, 0, none⟩ cap bs hs he hd (fun j hj => ?_)
    have := h.cells (g := g) rfl j (bv bs[j]) (by simp [hj])
    simpa [bv] using this

theorem u8_nat (k : Nat) (h : k < 256) : ((UInt8.ofNat k).toNat : Int) = (k : Int) := by
  simp [UInt8.toNat_ofNat']; omega

theorem bv_ofNat (k : Nat) (h : k < 256) : bv (UInt8.ofNat k) = .int .u8 (k : Int) := by
  simp [bv, UInt8.toNat_ofNat']; omega

/-- One byte appended to a row of bytes that the call owns: the byte lies in a block of its own, laid just ahead. -/
theorem wpList_append_byte {P : Program} (w : World) {ops : Array Oper} {rest : List Oper} {o : Oper} {a : Act} {Q : Exit → Act → World → Prop} (hgd : o.guard = none) (s x : Operand) (t : TypeId)
    (ho : o.op = .call { callee := .builtin .append, args := #[s, x], argTypes := #[t, t] })
    (base : Nat) (e : TypeId) (hinfo : (P.info? e).map (fun i => (i.zero, i.size, i.bytes)) = some (some (.int .u8 0), 1, 1)) (ht : P.underlying t = some (.slice e))
    (v : Value) (bs : List UInt8) (hs : a.eval s = v) (hown : w.ownsRow base e 1 v bs.length (bs.map bv)) (n : Int) (b : UInt8) (hb : n = (b.toNat : Int))
    (hx : a.eval x = .slice (some ⟨w.heap.size, 0, none⟩) 1 1) (hlen : bs.length ≤ 70368744177664) (hbase : base ≤ w.heap.size)
    (h : ∀ v' w', w'.ownsRow base e 1 v' (bs ++ [b]).length ((bs ++ [b]).map bv) → Below base w w' → wpList P ops Q rest (a.put o.dst v') w') :
    wpList P ops Q (o :: rest) a (w.alloc (.cells #[.int .u8 n] e)) := by
  obtain ⟨i0, hi, hz0, hz1, hz2⟩ := info_parts hinfo
  subst hb
  refine wpList_append_own _ hgd s x t ho base e i0 (.int .u8 0) 1 1 ht hi hz0 hz1 hz2 rfl (by decide) v _ _ hs (hown.alloc _) ⟨w.heap.size, 0, none⟩ 1 1 [bv b] hx rfl (cell_one_new _ _ _) (by intro u hu; simp at hu; subst hu; rfl) (by unfold maxLen; omega) (by omega) (by simp; omega) ?_
  intro v' w' hown' hg _
  refine h v' w' (by simpa using hown') (((Below.refl base w).alloc hbase _).grown hg (by simp; omega) (fun k hk => (hown.lt k hk).1))

/-- One byte appended within the capacity: the value stays at its row's head. -/
theorem wpList_append_byte_fits {P : Program} (w : World) {ops : Array Oper} {rest : List Oper} {o : Oper} {a : Act} {Q : Exit → Act → World → Prop} (hgd : o.guard = none) (s x : Operand) (t : TypeId)
    (ho : o.op = .call { callee := .builtin .append, args := #[s, x], argTypes := #[t, t] })
    (base : Nat) (e : TypeId) (hinfo : (P.info? e).map (fun i => (i.zero, i.size, i.bytes)) = some (some (.int .u8 0), 1, 1)) (ht : P.underlying t = some (.slice e))
    (g k cap : Nat) (bs : List UInt8) (hs : a.eval s = .slice (some ⟨g, 0, none⟩) k cap) (hown : w.ownsRow base e 1 (.slice (some ⟨g, 0, none⟩) k cap) k (bs.map bv)) (n : Int) (b : UInt8) (hb : n = (b.toNat : Int))
    (hx : a.eval x = .slice (some ⟨w.heap.size, 0, none⟩) 1 1) (hcap : k + 1 ≤ cap) (hbase : base ≤ w.heap.size)
    (h : ∀ w', w'.ownsRow base e 1 (.slice (some ⟨g, 0, none⟩) (k + 1) cap) (k + 1) ((bs ++ [b]).map bv) → Below base w w' → wpList P ops Q rest (a.put o.dst (.slice (some ⟨g, 0, none⟩) (k + 1) cap)) w') :
    wpList P ops Q (o :: rest) a (w.alloc (.cells #[.int .u8 n] e)) := by
  obtain ⟨i0, hi, hz0, hz1, hz2⟩ := info_parts hinfo
  subst hb
  refine wpList_append_fits _ hgd s x t ho base e i0 1 ht hi hz1 g k cap _ hs (hown.alloc _) ⟨w.heap.size, 0, none⟩ 1 1 [bv b] hx rfl (cell_one_new _ _ _) (by intro u hu; simp at hu; subst hu; rfl) hcap ?_
  intro w' hown' hg
  refine h w' (by simpa using hown') (((Below.refl base w).alloc hbase _).grown hg (by simp; omega) (fun k hk => (hown.lt k hk).1))

end Go.Proofs.Ytegdejhgamkkbaa
