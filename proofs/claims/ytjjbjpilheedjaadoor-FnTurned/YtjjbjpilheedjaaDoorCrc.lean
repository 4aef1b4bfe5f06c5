/- Sums of 32 bits as numbers: the eight steps, four of them by a table, and that each step can be told back. -/
import Derived.Test.YtjjbjpilheedjaaDoorDrawB
import Derived.Test.YtjjbjpilheedjaaDoorProg
namespace Go.Proofs.YtjjbjpilheedjaaDoor
def st (x : Nat) : Nat := if x % 2 = 1 then x / 2 ^^^ 3558460437 else x / 2
def st8 (x : Nat) : Nat := st (st (st (st (st (st (st (st x)))))))
def st4 (x : Nat) : Nat := st (st (st (st x)))
def smore (x : Nat) (l : List UInt8) : Nat := l.foldl (fun x b => st8 (x ^^^ b.toNat)) x
def tabW : List Nat := [0, 1166650509, 2333301018, 3466261911, 3189058079, 4221339282, 889615109, 1888477064, 3558460437, 2442158232, 1594529039, 444807554, 1779230218, 797264519, 3776954128, 2761298845]
def four (x : Nat) : Nat := x / 16 ^^^ tabW.getD (x % 16) 0

theorem xor_can {a b c : Nat} (h : a ^^^ c = b ^^^ c) : a = b := by
  have := congrArg (· ^^^ c) h
  simpa [Nat.xor_assoc] using this
theorem xor_can' {a b c : Nat} (h : c ^^^ a = c ^^^ b) : a = b := by
  rw [Nat.xor_comm c a, Nat.xor_comm c b] at h
  exact xor_can h
theorem st_lin (x y : Nat) : st (x ^^^ y) = st x ^^^ st y := by
  have hm := @Nat.xor_mod_two_eq_one x y
  have hd := @Nat.xor_div_two x y
  unfold st
  rw [hd]
  by_cases hx : x % 2 = 1 <;> by_cases hy : y % 2 = 1
  · rw [if_neg (by rw [hm]; simp [hx, hy]), if_pos hx, if_pos hy]
    rw [Nat.xor_assoc, Nat.xor_comm 3558460437 (y / 2 ^^^ 3558460437), Nat.xor_assoc, Nat.xor_self]; simp
  · rw [if_pos (by rw [hm]; simp [hx, hy]), if_pos hx, if_neg hy]
    rw [Nat.xor_assoc, Nat.xor_assoc, Nat.xor_comm (y / 2)]
  · rw [if_pos (by rw [hm]; simp [hx, hy]), if_neg hx, if_pos hy, Nat.xor_assoc]
  · rw [if_neg (by rw [hm]; simp [hx, hy]), if_neg hx, if_neg hy]
theorem st4_lin (x y : Nat) : st4 (x ^^^ y) = st4 x ^^^ st4 y := by
  unfold st4; rw [st_lin, st_lin, st_lin, st_lin]
theorem split16 (x : Nat) : x = (16 * (x / 16)) ^^^ (x % 16) := by
  apply Nat.eq_of_testBit_eq; intro i
  rw [Nat.testBit_xor, show (16 : Nat) = 2 ^ 4 from rfl, Nat.testBit_two_pow_mul, Nat.testBit_mod_two_pow, Nat.testBit_div_two_pow]
  by_cases h : i < 4
  · have h' : ¬ i ≥ 4 := by omega
    simp [h, h']
  · have h' : i ≥ 4 := by omega
    simp [h, h']
theorem st_even (q : Nat) : st (2 * q) = q := by unfold st; rw [if_neg (by omega)]; omega
theorem st4_16 (q : Nat) : st4 (16 * q) = q := by
  unfold st4
  rw [show 16 * q = 2 * (2 * (2 * (2 * q))) by omega, st_even, st_even, st_even, st_even]
theorem st4_tab : ∀ r : Fin 16, st4 r.val = tabW.getD r.val 0 := by decide
theorem st4_four (x : Nat) : st4 x = four x := by
  conv => lhs; rw [split16 x]
  rw [st4_lin, st4_16]
  unfold four
  rw [st4_tab ⟨x % 16, Nat.mod_lt _ (by omega)⟩]
theorem st8_four (x : Nat) : st8 x = four (four x) := by
  rw [← st4_four, ← st4_four]; rfl
theorem st_lt {x : Nat} (h : x < 4294967296) : st x < 4294967296 := by
  unfold st
  split
  · exact Nat.xor_lt_two_pow (n := 32) (by omega) (by omega)
  · omega
theorem st_odd_even {x y : Nat} (hx : x < 4294967296) (hy : y < 4294967296) (e : x / 2 ^^^ 3558460437 = y / 2) : False := by
  have h := congrArg (Nat.testBit · 31) e
  simp only [Nat.testBit_xor] at h
  rw [Nat.testBit_lt_two_pow (x := x / 2) (i := 31) (by omega), Nat.testBit_lt_two_pow (x := y / 2) (i := 31) (by omega)] at h
  exact absurd h (by decide)
theorem st_inj {x y : Nat} (hx : x < 4294967296) (hy : y < 4294967296) (e : st x = st y) : x = y := by
  unfold st at e
  by_cases a : x % 2 = 1 <;> by_cases b : y % 2 = 1
  · rw [if_pos a, if_pos b] at e
    have := xor_can e
    omega
  · rw [if_pos a, if_neg b] at e
    exact (st_odd_even hx hy e).elim
  · rw [if_neg a, if_pos b] at e
    exact (st_odd_even hy hx e.symm).elim
  · rw [if_neg a, if_neg b] at e
    omega
theorem st8_lt {x : Nat} (h : x < 4294967296) : st8 x < 4294967296 := by
  unfold st8; exact st_lt (st_lt (st_lt (st_lt (st_lt (st_lt (st_lt (st_lt h)))))))
theorem st8_inj {x y : Nat} (hx : x < 4294967296) (hy : y < 4294967296) (e : st8 x = st8 y) : x = y := by
  unfold st8 at e
  have l1 := st_lt hx; have l2 := st_lt l1; have l3 := st_lt l2; have l4 := st_lt l3; have l5 := st_lt l4; have l6 := st_lt l5; have l7 := st_lt l6
  have m1 := st_lt hy; have m2 := st_lt m1; have m3 := st_lt m2; have m4 := st_lt m3; have m5 := st_lt m4; have m6 := st_lt m5; have m7 := st_lt m6
  exact st_inj hx hy (st_inj l1 m1 (st_inj l2 m2 (st_inj l3 m3 (st_inj l4 m4 (st_inj l5 m5 (st_inj l6 m6 (st_inj l7 m7 e)))))))
theorem xor_byte_lt {x : Nat} (h : x < 4294967296) (b : UInt8) : x ^^^ b.toNat < 4294967296 := by
  have := b.toNat_lt
  exact Nat.xor_lt_two_pow (n := 32) (by omega) (by omega)
theorem smore_lt (l : List UInt8) : ∀ {x : Nat}, x < 4294967296 → smore x l < 4294967296 := by
  induction l with
  | nil => intro x h; exact h
  | cons b l ih => intro x h; exact ih (st8_lt (xor_byte_lt h b))
theorem smore_append (x : Nat) (l m : List UInt8) : smore x (l ++ m) = smore (smore x l) m := by
  unfold smore; rw [List.foldl_append]
theorem smore_cons (x : Nat) (b : UInt8) (l : List UInt8) : smore x (b :: l) = smore (st8 (x ^^^ b.toNat)) l := rfl
theorem smore_inj (l : List UInt8) : ∀ {x y : Nat}, x < 4294967296 → y < 4294967296 → smore x l = smore y l → x = y := by
  induction l with
  | nil => intro x y _ _ e; exact e
  | cons b l ih =>
    intro x y hx hy e
    rw [smore_cons, smore_cons] at e
    exact xor_can (st8_inj (xor_byte_lt hx b) (xor_byte_lt hy b) (ih (st8_lt (xor_byte_lt hx b)) (st8_lt (xor_byte_lt hy b)) e))
/- one byte turned turns the sum -/
theorem smore_turn {x : Nat} (hx : x < 4294967296) (l m : List UInt8) {b c : UInt8} (h : b ≠ c) : smore x (l ++ b :: m) ≠ smore x (l ++ c :: m) := by
  intro e
  rw [smore_append, smore_append, smore_cons, smore_cons] at e
  have hl := smore_lt l hx
  have := smore_inj m (st8_lt (xor_byte_lt hl b)) (st8_lt (xor_byte_lt hl c)) e
  exact h (UInt8.toNat_inj.mp (xor_can' (st8_inj (xor_byte_lt hl b) (xor_byte_lt hl c) this)))
def f4 (x : Nat) : List UInt8 := [UInt8.ofNat (x / 16777216), UInt8.ofNat (x / 65536), UInt8.ofNat (x / 256), UInt8.ofNat x]
theorem f4_len (x : Nat) : (f4 x).length = 4 := rfl
theorem u8_of (n : Nat) : (UInt8.ofNat n).toNat = n % 256 := by simp
theorem f4_inj {x y : Nat} (hx : x < 4294967296) (hy : y < 4294967296) (e : f4 x = f4 y) : x = y := by
  unfold f4 at e
  injection e with e1 e; injection e with e2 e; injection e with e3 e; injection e with e4 e
  have h1 := congrArg UInt8.toNat e1; have h2 := congrArg UInt8.toNat e2; have h3 := congrArg UInt8.toNat e3; have h4 := congrArg UInt8.toNat e4
  rw [u8_of, u8_of] at h1 h2 h3 h4
  omega
end Go.Proofs.YtjjbjpilheedjaaDoor
