/- Stp, Stq, Str, Sia, Sib, Sic, Sid, Sie, Sif, Sig. -/

import Derived.Test.YtmpcmllfgogegaaGreatjJma
namespace Go.Proofs.YtmpcmllfgogegaaGreat
open Go.RowKit
section
variable {α : Type}
structure Pm8 (Z Z' : List α) (a b : Nat) : Prop where
 perm : Z'.Perm Z
 out : ∀ i, (i < a ∨ b ≤ i) → Z'[i]? = Z[i]?
 inn : ∀ i, a ≤ i → i < b → ∃ j, a ≤ j ∧ j < b ∧ Z'[i]? = Z[j]?
theorem Pm8.refl (Z : List α) (a b : Nat) : Pm8 Z Z a b := ⟨.refl _, fun _ _ => rfl, fun i h1 h2 => ⟨i, h1, h2, rfl⟩⟩
theorem Pm8.len {Z Z' : List α} {a b : Nat} (h : Pm8 Z Z' a b) : Z'.length = Z.length := h.perm.length_eq
theorem Pm8.trans {X Y Z : List α} {a b : Nat} (h : Pm8 X Y a b) (k : Pm8 Y Z a b) : Pm8 X Z a b :=
 ⟨k.perm.trans h.perm, fun i hi => (k.out i hi).trans (h.out i hi), fun i h1 h2 => by
   obtain ⟨j, j1, j2, e⟩ := k.inn i h1 h2
   obtain ⟨l, l1, l2, e'⟩ := h.inn j j1 j2
   exact ⟨l, l1, l2, e.trans e'⟩⟩
theorem Pm8.wide {Z Z' : List α} {a b a' b' : Nat} (h : Pm8 Z Z' a b) (h1 : a' ≤ a) (h2 : b ≤ b') : Pm8 Z Z' a' b' :=
 ⟨h.perm, fun i hi => h.out i (by omega), fun i h3 h4 => by
   by_cases h5 : a ≤ i ∧ i < b
   · obtain ⟨j, j1, j2, e⟩ := h.inn i h5.1 h5.2
     exact ⟨j, by omega, by omega, e⟩
   · exact ⟨i, h3, h4, h.out i (by omega)⟩⟩
def sw2 (Z : List α) (p q : Nat) (x y : α) : List α := (Z.set q x).set p y
theorem sw2_at {Z : List α} {p q : Nat} (hp : p < Z.length) (hq : q < Z.length) (k : Nat) : (sw2 Z p q Z[p] Z[q])[k]? = if k = p then Z[q]? else if k = q then Z[p]? else Z[k]? := by
 unfold sw2
 by_cases h1 : k = p
 ·subst h1
  rw [if_pos rfl, List.getElem?_set_self (by simpa using hp), List.getElem?_eq_getElem hq]
 ·rw [if_neg h1, List.getElem?_set_ne (Ne.symm h1)]
  by_cases h2 : k = q
  ·subst h2
   rw [if_pos rfl, List.getElem?_set_self hq, List.getElem?_eq_getElem hp]
  ·rw [if_neg h2, List.getElem?_set_ne (Ne.symm h2)]
theorem sw2_perm {Z : List α} {p q : Nat} (hp : p < Z.length) (hq : q < Z.length) : (sw2 Z p q Z[p] Z[q]).Perm Z := by
 induction Z generalizing p q with
 | nil => simp at hp
 | cons a Z ih =>
  cases p with
  | zero =>
   cases q with
   | zero => exact .refl _
   | succ q =>
    have h : q < Z.length := by simpa using hq
    show (Z[q] :: Z.set q a).Perm (a :: Z)
    have key : ∀ (Y : List α) (r : Nat) (hr : r < Y.length), (Y[r] :: Y.set r a).Perm (a :: Y) := by
     intro Y
     induction Y with
     | nil => intro r hr; simp at hr
     | cons b Y ihY =>
      intro r hr
      cases r with
      | zero => exact List.Perm.swap a b Y
      | succ r =>
       have h' : r < Y.length := by simpa using hr
       show (Y[r] :: b :: Y.set r a).Perm (a :: b :: Y)
       exact (List.Perm.swap b Y[r] (Y.set r a)).trans (((ihY r h').cons b).trans (List.Perm.swap a b Y))
    exact key Z q h
  | succ p =>
   cases q with
   | zero =>
    have h : p < Z.length := by simpa using hp
    show (Z[p] :: Z.set p a).Perm (a :: Z)
    have key : ∀ (Y : List α) (r : Nat) (hr : r < Y.length), (Y[r] :: Y.set r a).Perm (a :: Y) := by
     intro Y
     induction Y with
     | nil => intro r hr; simp at hr
     | cons b Y ihY =>
      intro r hr
      cases r with
      | zero => exact List.Perm.swap a b Y
      | succ r =>
       have h' : r < Y.length := by simpa using hr
       show (Y[r] :: b :: Y.set r a).Perm (a :: b :: Y)
       exact (List.Perm.swap b Y[r] (Y.set r a)).trans (((ihY r h').cons b).trans (List.Perm.swap a b Y))
    exact key Z p h
   | succ q => exact (ih (by simpa using hp) (by simpa using hq)).cons a
theorem sw2_pm {Z : List α} {p q a b : Nat} (hp : p < Z.length) (hq : q < Z.length) (h1 : a ≤ p) (h2 : p < b) (h3 : a ≤ q) (h4 : q < b) : Pm8 Z (sw2 Z p q Z[p] Z[q]) a b :=
 ⟨sw2_perm hp hq, fun i hi => by rw [sw2_at hp hq, if_neg (by omega), if_neg (by omega)], fun i h5 h6 => by
   rw [sw2_at hp hq]
   by_cases e : i = p
   · exact ⟨q, h3, h4, by rw [if_pos e]⟩
   · by_cases e2 : i = q
     · exact ⟨p, h1, h2, by rw [if_neg e, if_pos e2]⟩
     · exact ⟨i, h5, h6, by rw [if_neg e, if_neg e2]⟩⟩
def Sr8 (Z Z' : List α) (p q c : Nat) : Prop := ∀ k, Z'[k]? = if p ≤ k ∧ k < p + c then Z[k + (q - p)]? else if q ≤ k ∧ k < q + c then Z[k - (q - p)]? else Z[k]?
theorem Sr8.zero (Z : List α) (p q : Nat) : Sr8 Z Z p q 0 := fun k => by rw [if_neg (by omega), if_neg (by omega)]
theorem Sr8.step {Z Y : List α} {p q c : Nat} (h : Sr8 Z Y p q c) (hd : p + c < q) (hp : p + c < Y.length) (hq : q + c < Y.length) : Sr8 Z (sw2 Y (p + c) (q + c) Y[p + c] Y[q + c]) p q (c + 1) := by
 intro k
 rw [sw2_at hp hq, h (q + c), h (p + c), h k]
 repeat' split
 all_goals first | (exfalso; omega) | rfl | (congr 1; done) | (congr 1; omega)
def rt (z : Nat → Option α) (s m e k : Nat) : Option α := if s ≤ k ∧ k < s + (e - m) then z (k + (m - s)) else if s + (e - m) ≤ k ∧ k < e then z (k - (e - m)) else z k
theorem rt_left {Z Z' : List α} {i j m : Nat} (h : Sr8 Z Z' (m - i) m j) (hij : j < i) (hm : i ≤ m) (k : Nat) : rt (fun k => Z'[k]?) (m - (i - j)) m (m + j) k = rt (fun k => Z[k]?) (m - i) m (m + j) k := by
 unfold rt
 simp only [h _]
 repeat' split
 all_goals first | (exfalso; omega) | rfl | (congr 1; done) | (congr 1; omega)
theorem rt_right {Z Z' : List α} {i j m : Nat} (h : Sr8 Z Z' (m - i) (m + j - i) i) (hij : i < j) (hm : i ≤ m) (k : Nat) : rt (fun k => Z'[k]?) (m - i) m (m + (j - i)) k = rt (fun k => Z[k]?) (m - i) m (m + j) k := by
 unfold rt
 simp only [h _]
 repeat' split
 all_goals first | (exfalso; omega) | rfl | (congr 1; done) | (congr 1; omega)
theorem rt_even {Z Z' : List α} {i m : Nat} (h : Sr8 Z Z' (m - i) m i) (hm : i ≤ m) (k : Nat) : Z'[k]? = rt (fun k => Z[k]?) (m - i) m (m + i) k := by
 unfold rt
 simp only [h _]
 repeat' split
 all_goals first | (exfalso; omega) | rfl | (congr 1; done) | (congr 1; omega)
variable (key : α → Int) (tie : α → α → Prop)
def lt8 (x y : α) : Prop := key x < key y ∨ (key x = key y ∧ tie x y)
def Or8 (Z : List α) (i j : Nat) : Prop := ∀ x y, Z[i]? = some x → Z[j]? = some y → lt8 key tie x y
def Ti8 (Z : List α) (i j : Nat) : Prop := ∀ x y, Z[i]? = some x → Z[j]? = some y → key x = key y → tie x y
def Sg8 (Z : List α) (a b : Nat) : Prop := ∀ i j, a ≤ i → i < j → j < b → Or8 key tie Z i j
def Cr8 (Z : List α) (a m b : Nat) : Prop := ∀ i j, a ≤ i → i < m → m ≤ j → j < b → Ti8 key tie Z i j
def Tg8 (Z : List α) (a b : Nat) : Prop := ∀ i j, a ≤ i → i < j → j < b → Ti8 key tie Z i j
variable {key tie}
theorem Sg8.sub {Z : List α} {a b a' b' : Nat} (h : Sg8 key tie Z a b) (h1 : a ≤ a') (h2 : b' ≤ b) : Sg8 key tie Z a' b' := fun i j h3 h4 h5 => h i j (by omega) h4 (by omega)
theorem Cr8.sub {Z : List α} {a m b a' b' : Nat} (h : Cr8 key tie Z a m b) (h1 : a ≤ a') (h2 : b' ≤ b) : Cr8 key tie Z a' m b' := fun i j h3 h4 h5 h6 => h i j (by omega) h4 h5 (by omega)
theorem Or8.same {Z Z' : List α} {i j i' j' : Nat} (h : Or8 key tie Z i j) (h1 : Z'[i']? = Z[i]?) (h2 : Z'[j']? = Z[j]?) : Or8 key tie Z' i' j' := fun x y hx hy => h x y (h1 ▸ hx) (h2 ▸ hy)
theorem Ti8.same {Z Z' : List α} {i j i' j' : Nat} (h : Ti8 key tie Z i j) (h1 : Z'[i']? = Z[i]?) (h2 : Z'[j']? = Z[j]?) : Ti8 key tie Z' i' j' := fun x y hx hy => h x y (h1 ▸ hx) (h2 ▸ hy)
theorem Sg8.kept {Z Z' : List α} {a b c d : Nat} (h : Sg8 key tie Z c d) (hp : Pm8 Z Z' a b) (hd : d ≤ a ∨ b ≤ c) : Sg8 key tie Z' c d :=
 fun i j h1 h2 h3 => (h i j h1 h2 h3).same (hp.out i (by omega)) (hp.out j (by omega))
theorem Cr8.kept {Z Z' : List α} {a b c m d : Nat} (h : Cr8 key tie Z c m d) (hp : Pm8 Z Z' a b) (h1 : c ≤ a) (h2 : b ≤ d) (hm : m ≤ a ∨ b ≤ m) : Cr8 key tie Z' c m d := by
 intro i j i1 i2 j1 j2
 have fi : ∃ i', c ≤ i' ∧ i' < m ∧ Z'[i]? = Z[i']? := by
  by_cases hi : a ≤ i ∧ i < b
  ·obtain ⟨i', e1, e2, e3⟩ := hp.inn i hi.1 hi.2
   exact ⟨i', by omega, by omega, e3⟩
  ·exact ⟨i, i1, i2, hp.out i (by omega)⟩
 have fj : ∃ j', m ≤ j' ∧ j' < d ∧ Z'[j]? = Z[j']? := by
  by_cases hj : a ≤ j ∧ j < b
  ·obtain ⟨j', e1, e2, e3⟩ := hp.inn j hj.1 hj.2
   exact ⟨j', by omega, by omega, e3⟩
  ·exact ⟨j, j1, j2, hp.out j (by omega)⟩
 obtain ⟨i', a1, a2, a3⟩ := fi
 obtain ⟨j', b1, b2, b3⟩ := fj
 exact (h i' j' a1 a2 b1 b2).same a3 b3
def Ac8 (key : α → Int) (tie : α → α → Prop) (Z : List α) (a m b : Nat) : Prop := ∀ i j, a ≤ i → i < m → m ≤ j → j < b → Or8 key tie Z i j
theorem Ac8.kept {Z Z' : List α} {a b c m d : Nat} (h : Ac8 key tie Z c m d) (hp : Pm8 Z Z' a b) (h1 : c ≤ a) (h2 : b ≤ d) (hm : m ≤ a ∨ b ≤ m) : Ac8 key tie Z' c m d := by
 intro i j i1 i2 j1 j2
 have fi : ∃ i', c ≤ i' ∧ i' < m ∧ Z'[i]? = Z[i']? := by
  by_cases hi : a ≤ i ∧ i < b
  ·obtain ⟨i', e1, e2, e3⟩ := hp.inn i hi.1 hi.2
   exact ⟨i', by omega, by omega, e3⟩
  ·exact ⟨i, i1, i2, hp.out i (by omega)⟩
 have fj : ∃ j', m ≤ j' ∧ j' < d ∧ Z'[j]? = Z[j']? := by
  by_cases hj : a ≤ j ∧ j < b
  ·obtain ⟨j', e1, e2, e3⟩ := hp.inn j hj.1 hj.2
   exact ⟨j', by omega, by omega, e3⟩
  ·exact ⟨j, j1, j2, hp.out j (by omega)⟩
 obtain ⟨i', a1, a2, a3⟩ := fi
 obtain ⟨j', b1, b2, b3⟩ := fj
 exact (h i' j' a1 a2 b1 b2).same a3 b3
theorem Sg8.glue {Z : List α} {a m b : Nat} (h1 : Sg8 key tie Z a m) (h2 : Sg8 key tie Z m b) (h3 : Ac8 key tie Z a m b) : Sg8 key tie Z a b := by
 intro i j i1 i2 i3
 by_cases hj : j < m
 ·exact h1 i j i1 i2 hj
 ·by_cases hi : i < m
  ·exact h3 i j i1 hi (by omega) i3
  ·exact h2 i j (by omega) i2 i3
end
section
variable {α : Type} {key : α → Int} {tie : α → α → Prop}
def ky8 (key : α → Int) (Z : List α) (k : Nat) : Int := ((Z[k]?).map key).getD 0
theorem ky8_at {Z : List α} {k : Nat} (h : k < Z.length) : ky8 key Z k = key Z[k] := by unfold ky8; rw [List.getElem?_eq_getElem h]; rfl
theorem Or8.le {Z : List α} {i j : Nat} (h : Or8 key tie Z i j) (hi : i < Z.length) (hj : j < Z.length) : ky8 key Z i ≤ ky8 key Z j := by
 rw [ky8_at hi, ky8_at hj]
 rcases h _ _ (List.getElem?_eq_getElem hi) (List.getElem?_eq_getElem hj) with e | e <;> omega
theorem Or8.of_lt {Z : List α} {i j : Nat} (h : ky8 key Z i < ky8 key Z j) : Or8 key tie Z i j := by
 intro x y hx hy
 left
 unfold ky8 at h
 rw [hx, hy] at h
 exact h
theorem Or8.of_le {Z : List α} {i j : Nat} (h : ky8 key Z i ≤ ky8 key Z j) (ht : Ti8 key tie Z i j) : Or8 key tie Z i j := by
 intro x y hx hy
 have h' : key x ≤ key y := by
  unfold ky8 at h
  rw [hx, hy] at h
  exact h
 by_cases e : key x = key y
 ·exact .inr ⟨e, ht x y hx hy e⟩
 ·exact .inl (by omega)
theorem Sg8.le {Z : List α} {a b i j : Nat} (h : Sg8 key tie Z a b) (hb : b ≤ Z.length) (h1 : a ≤ i) (h2 : i ≤ j) (h3 : j < b) : ky8 key Z i ≤ ky8 key Z j := by
 by_cases e : i = j
 ·subst e; exact Int.le_refl _
 ·exact (h i j h1 (by omega) h3).le (by omega) (by omega)
theorem mrg8 {Z Z1 : List α} {a m b mid start : Nat} (hb : b ≤ Z.length) (ham : a ≤ m) (hmb : m ≤ b) (h1 : Sg8 key tie Z a m) (h2 : Sg8 key tie Z m b) (h3 : Cr8 key tie Z a m b)
  (hs1 : start ≤ m) (hs2 : start ≤ mid) (hs3 : a ≤ start) (hs4 : mid + m - start ≤ b) (lo : start = a ∨ mid + m - start = b ∨ ky8 key Z (start - 1) ≤ ky8 key Z (mid + m - start)) (hi : start = m ∨ start = mid ∨ ky8 key Z (mid + m - 1 - start) < ky8 key Z start)
  (hz : ∀ k, Z1[k]? = rt (fun k => Z[k]?) start m (mid + m - start) k) :
  Ac8 key tie Z1 a mid b ∧ Sg8 key tie Z1 a start ∧ Sg8 key tie Z1 start mid ∧ Cr8 key tie Z1 a start mid ∧ Sg8 key tie Z1 mid (mid + m - start) ∧ Sg8 key tie Z1 (mid + m - start) b ∧ Cr8 key tie Z1 mid (mid + m - start) b := by
 have e1 : ∀ i, i < start → Z1[i]? = Z[i]? := fun i h => by rw [hz, rt, if_neg (by omega), if_neg (by omega)]
 have e2 : ∀ i, start ≤ i → i < mid → Z1[i]? = Z[i + (m - start)]? := fun i h h' => by rw [hz, rt, if_pos (by omega)]
 have e3 : ∀ i, mid ≤ i → i < mid + m - start → Z1[i]? = Z[i - (mid - start)]? := fun i h h' => by rw [hz, rt, if_neg (by omega), if_pos (by omega)]; congr 1; omega
 have e4 : ∀ i, mid + m - start ≤ i → Z1[i]? = Z[i]? := fun i h => by rw [hz, rt, if_neg (by omega), if_neg (by omega)]
 have x1 : ∀ i j, a ≤ i → i < start → mid + m - start ≤ j → j < b → Or8 key tie Z i j := by
  intro i j i1 i2 j1 j2
  have hle : ky8 key Z (start - 1) ≤ ky8 key Z (mid + m - start) := by rcases lo with h | h | h <;> first | omega | exact h
  have l1 := h1.le (by omega) i1 (show i ≤ start - 1 by omega) (by omega)
  have l2 := h2.le hb (show m ≤ mid + m - start by omega) j1 j2
  exact Or8.of_le (by omega) (h3 i j i1 (by omega) (by omega) j2)
 have x2 : ∀ i j, m ≤ i → i < mid + m - start → start ≤ j → j < m → Or8 key tie Z i j := by
  intro i j i1 i2 j1 j2
  have hlt : ky8 key Z (mid + m - 1 - start) < ky8 key Z start := by rcases hi with h | h | h <;> first | omega | exact h
  have l1 := h2.le hb i1 (show i ≤ mid + m - 1 - start by omega) (by omega)
  have l2 := h1.le (by omega) hs3 j1 j2
  exact Or8.of_lt (by omega)
 refine ⟨fun i j i1 i2 j1 j2 => ?_, fun i j i1 i2 j2 => (h1 i j i1 i2 (by omega)).same (e1 i (by omega)) (e1 j j2), fun i j i1 i2 j2 => (h2 (i + (m - start)) (j + (m - start)) (by omega) (by omega) (by omega)).same (e2 i i1 (by omega)) (e2 j (by omega) j2), fun i j i1 i2 j1 j2 => (h3 i (j + (m - start)) i1 (by omega) (by omega) (by omega)).same (e1 i i2) (e2 j j1 j2), fun i j i1 i2 j2 => (h1 (i - (mid - start)) (j - (mid - start)) (by omega) (by omega) (by omega)).same (e3 i i1 (by omega)) (e3 j (by omega) j2), fun i j i1 i2 j2 => (h2 i j (by omega) i2 j2).same (e4 i i1) (e4 j (by omega)), fun i j i1 i2 j1 j2 => (h3 (i - (mid - start)) j (by omega) (by omega) (by omega) j2).same (e3 i i1 i2) (e4 j j1)⟩
 by_cases hi : i < start
 ·by_cases hj : j < mid + m - start
  ·exact (h1 i (j - (mid - start)) i1 (by omega) (by omega)).same (e1 i hi) (e3 j j1 hj)
  ·exact (x1 i j i1 hi (by omega) j2).same (e1 i hi) (e4 j (by omega))
 ·by_cases hj : j < mid + m - start
  ·exact (x2 (i + (m - start)) (j - (mid - start)) (by omega) (by omega) (by omega) (by omega)).same (e2 i (by omega) i2) (e3 j j1 hj)
  ·exact (h2 (i + (m - start)) j (by omega) (by omega) j2).same (e2 i (by omega) i2) (e4 j (by omega))
theorem one_left {Z Z1 : List α} {a b i : Nat} (hb : b ≤ Z.length) (h2 : Sg8 key tie Z (a + 1) b) (h3 : Cr8 key tie Z a (a + 1) b) (i1 : a + 1 ≤ i) (i2 : i ≤ b) (lo : i = a + 1 ∨ ky8 key Z (i - 1) < ky8 key Z a) (hi : i = b ∨ ky8 key Z a ≤ ky8 key Z i)
  (hz : ∀ k, Z1[k]? = rt (fun k => Z[k]?) a (a + 1) i k) : Sg8 key tie Z1 a b := by
 have h1 : Sg8 key tie Z a (a + 1) := fun p q _ _ _ => by omega
 have hz' : ∀ k, Z1[k]? = rt (fun k => Z[k]?) a (a + 1) (i - 1 + (a + 1) - a) k := fun k => by rw [hz]; congr 1; omega
 obtain ⟨m1, -, m3, -, -, m6, -⟩ := mrg8 (mid := i - 1) (start := a) hb (by omega) (by omega) h1 h2 h3 (by omega) (by omega) (by omega) (by omega) (.inl rfl) (by
   rcases lo with h | h
   · right; left; omega
   · right; right; rw [show i - 1 + (a + 1) - 1 - a = i - 1 by omega]; exact h) hz'
 rw [show i - 1 + (a + 1) - a = i by omega] at m6
 refine Sg8.glue m3 (Sg8.glue (m := i) (fun p q _ _ _ => by omega) m6 ?_) m1
 intro p q p1 p2 q1 q2
 have hp : p = i - 1 := by omega
 subst hp
 have ep : Z1[i - 1]? = Z[a]? := by rw [hz, rt, if_neg (by omega), if_pos (by omega)]; congr 1; omega
 have eq : Z1[q]? = Z[q]? := by rw [hz, rt, if_neg (by omega), if_neg (by omega)]
 refine (Or8.of_le (Int.le_trans ?_ (h2.le hb i1 q1 q2)) (h3 a q (by omega) (by omega) (by omega) q2)).same ep eq
 rcases hi with h | h
 ·omega
 ·exact h
theorem one_right {Z Z1 : List α} {a m i : Nat} (hb : m + 1 ≤ Z.length) (h1 : Sg8 key tie Z a m) (h3 : Cr8 key tie Z a m (m + 1)) (i1 : a ≤ i) (i2 : i ≤ m) (lo : i = a ∨ ky8 key Z (i - 1) ≤ ky8 key Z m) (hi : i = m ∨ ky8 key Z m < ky8 key Z i)
  (hz : ∀ k, Z1[k]? = rt (fun k => Z[k]?) i m (m + 1) k) : Sg8 key tie Z1 a (m + 1) := by
 have h2 : Sg8 key tie Z m (m + 1) := fun p q _ _ _ => by omega
 have hz' : ∀ k, Z1[k]? = rt (fun k => Z[k]?) i m (i + 1 + m - i) k := fun k => by rw [hz]; congr 1; omega
 obtain ⟨m1, m2, -, -, m5, -, -⟩ := mrg8 (mid := i + 1) (start := i) hb (by omega) (by omega) h1 h2 h3 i2 (by omega) i1 (by omega) (.inr (.inl (by omega))) (by
   rcases hi with h | h
   · left; exact h
   · right; right; rw [show i + 1 + m - 1 - i = m by omega]; exact h) hz'
 rw [show i + 1 + m - i = m + 1 by omega] at m5
 refine Sg8.glue (Sg8.glue (m := i) m2 (fun p q _ _ _ => by omega) ?_) m5 m1
 intro p q p1 p2 q1 q2
 have hq : q = i := by omega
 subst hq
 have ep : Z1[p]? = Z[p]? := by rw [hz, rt, if_neg (by omega), if_neg (by omega)]
 have eq : Z1[q]? = Z[m]? := by rw [hz, rt, if_pos (by omega)]; congr 1; omega
 refine (Or8.of_le (Int.le_trans (h1.le (by omega) p1 (show p ≤ q - 1 by omega) (by omega)) ?_) (h3 p m p1 (by omega) (by omega) (by omega))).same ep eq
 rcases lo with h | h
 ·omega
 ·exact h
theorem rt_start (Z : List α) (a : Nat) : ∀ k, Z[k]? = rt (fun k => Z[k]?) a (a + 1) (a + 1) k := fun k => by
 unfold rt
 repeat' split
 all_goals first | (exfalso; omega) | rfl | (congr 1; omega)
theorem rt_up {Z Y : List α} {a k : Nat} (h : ∀ i, Y[i]? = rt (fun i => Z[i]?) a (a + 1) (k + 1) i) (hk : a ≤ k) (hl : k + 1 < Y.length) : ∀ i, (sw2 Y k (k + 1) Y[k] Y[k + 1])[i]? = rt (fun i => Z[i]?) a (a + 1) (k + 2) i := by
 intro i
 rw [sw2_at (by omega) hl, h (k + 1), h k, h i]
 unfold rt
 repeat' split
 all_goals first | (exfalso; omega) | rfl | (congr 1; done) | (congr 1; omega)
theorem rt_end (Z : List α) (m : Nat) : ∀ k, Z[k]? = rt (fun k => Z[k]?) m m (m + 1) k := fun k => by
 unfold rt
 repeat' split
 all_goals first | (exfalso; omega) | rfl | (congr 1; omega)
theorem rt_down {Z Y : List α} {m k : Nat} (h : ∀ i, Y[i]? = rt (fun i => Z[i]?) (k + 1) m (m + 1) i) (hk : k < m) (hl : k + 1 < Y.length) : ∀ i, (sw2 Y k (k + 1) Y[k] Y[k + 1])[i]? = rt (fun i => Z[i]?) k m (m + 1) i := by
 intro i
 rw [sw2_at (by omega) hl, h (k + 1), h k, h i]
 unfold rt
 repeat' split
 all_goals first | (exfalso; omega) | rfl | (congr 1; done) | (congr 1; omega)
theorem rt_none {Z : List α} {s m e : Nat} (h : s = m ∨ e = m) : ∀ k, Z[k]? = rt (fun k => Z[k]?) s m e k := fun k => by
 unfold rt
 repeat' split
 all_goals first | (exfalso; omega) | rfl | (congr 1; omega)
structure In8 (key : α → Int) (tie : α → α → Prop) (Z : List α) (a b i : Nat) : Prop where
 low : Sg8 key tie Z a i
 up : ∀ p q, a ≤ p → p < q → i ≤ q → q < b → Ti8 key tie Z p q
structure Jn8 (key : α → Int) (tie : α → α → Prop) (Z : List α) (a b i j : Nat) : Prop where
 rest : ∀ p q, a ≤ p → p < q → q ≤ i → p ≠ j → q ≠ j → Or8 key tie Z p q
 here : ∀ q, j < q → q ≤ i → Or8 key tie Z j q
 told : ∀ p, a ≤ p → p < j → Ti8 key tie Z p j
 up : ∀ p q, a ≤ p → p < q → i < q → q < b → Ti8 key tie Z p q
theorem In8.start {Z : List α} {a b : Nat} (h : Tg8 key tie Z a b) : In8 key tie Z a b (a + 1) := ⟨fun p q _ _ _ => by omega, fun p q h1 h2 _ h4 => h p q h1 h2 h4⟩
theorem In8.go {Z : List α} {a b i : Nat} (h : In8 key tie Z a b i) (hi : i < b) : Jn8 key tie Z a b i i :=
 ⟨fun p q h1 h2 _ _ h5 => h.low p q h1 h2 (by omega), fun q h1 h2 => by omega, fun p h1 h2 => h.up p i h1 h2 (by omega) hi, fun p q h1 h2 h3 h4 => h.up p q h1 h2 (by omega) h4⟩
theorem Jn8.fin0 {Z : List α} {a b i : Nat} (h : Jn8 key tie Z a b i a) : In8 key tie Z a b (i + 1) :=
 ⟨fun p q h1 h2 h3 => by
   by_cases e : p = a
   · subst e; exact h.here q h2 (by omega)
   · exact h.rest p q h1 h2 (by omega) e (by omega), fun p q h1 h2 h3 h4 => h.up p q h1 h2 (by omega) h4⟩
theorem Jn8.fin {Z : List α} {a b i j : Nat} (hl : i < Z.length) (h : Jn8 key tie Z a b i (j + 1)) (hj : a ≤ j) (hji : j + 1 ≤ i) (hu : ky8 key Z j ≤ ky8 key Z (j + 1)) : In8 key tie Z a b (i + 1) :=
 ⟨fun p q h1 h2 h3 => by
   by_cases e : p = j + 1
   · subst e; exact h.here q h2 (by omega)
   · by_cases e2 : q = j + 1
     · subst e2
       refine Or8.of_le (Int.le_trans ?_ hu) (h.told p h1 h2)
       by_cases e3 : p = j
       · subst e3; exact Int.le_refl _
       · exact (h.rest p j h1 (by omega) (by omega) e (by omega)).le (by omega) (by omega)
     · exact h.rest p q h1 h2 (by omega) e e2, fun p q h1 h2 h3 h4 => h.up p q h1 h2 (by omega) h4⟩
theorem Jn8.step {Z : List α} {a b i j : Nat} (hl : i < Z.length) (h : Jn8 key tie Z a b i (j + 1)) (hj : a ≤ j) (hji : j + 1 ≤ i) (hu : ky8 key Z (j + 1) < ky8 key Z j) : Jn8 key tie (sw2 Z j (j + 1) (Z[j]'(by omega)) (Z[j + 1]'(by omega))) a b i j := by
 have hp : j < Z.length := by omega
 have hq : j + 1 < Z.length := by omega
 have e0 : (sw2 Z j (j + 1) Z[j] Z[j + 1])[j]? = Z[j + 1]? := by rw [sw2_at hp hq, if_pos rfl]
 have e1 : (sw2 Z j (j + 1) Z[j] Z[j + 1])[j + 1]? = Z[j]? := by rw [sw2_at hp hq, if_neg (by omega), if_pos rfl]
 have e2 : ∀ k, k ≠ j → k ≠ j + 1 → (sw2 Z j (j + 1) Z[j] Z[j + 1])[k]? = Z[k]? := fun k h1 h2 => by rw [sw2_at hp hq, if_neg h1, if_neg h2]
 refine ⟨fun p q h1 h2 h3 h4 h5 => ?_, fun q h1 h2 => ?_, fun p h1 h2 => ?_, fun p q h1 h2 h3 h4 => ?_⟩
 ·by_cases ep : p = j + 1
  ·subst ep
   exact (h.rest j q hj (by omega) h3 (by omega) (by omega)).same e1 (e2 q h5 (by omega))
  ·by_cases eq : q = j + 1
   ·subst eq
    exact (h.rest p j h1 (by omega) (by omega) ep (by omega)).same (e2 p h4 ep) e1
   ·exact (h.rest p q h1 h2 h3 ep eq).same (e2 p h4 ep) (e2 q h5 eq)
 ·by_cases eq : q = j + 1
  ·subst eq
   exact (Or8.of_lt hu).same e0 e1
  ·exact (h.here q (by omega) h2).same e0 (e2 q (by omega) eq)
 ·exact (h.told p h1 (by omega)).same (e2 p (by omega) (by omega)) e0
 ·by_cases ep : p = j
  ·subst ep
   exact (h.up (p + 1) q (by omega) (by omega) h3 h4).same e0 (e2 q (by omega) (by omega))
  ·by_cases ep1 : p = j + 1
   ·subst ep1
    exact (h.up j q hj (by omega) h3 h4).same e1 (e2 q (by omega) (by omega))
   ·exact (h.up p q h1 h2 h3 h4).same (e2 p ep ep1) (e2 q (by omega) (by omega))
end
section
variable {α : Type} {key : α → Int} {tie : α → α → Prop}
def Bd8 (s c : Nat) : Prop := ∃ k, c = k * s
theorem Bd8.zero (s : Nat) : Bd8 s 0 := ⟨0, by simp⟩
theorem Bd8.next {s c : Nat} (h : Bd8 s c) : Bd8 s (c + s) := by obtain ⟨k, rfl⟩ := h; exact ⟨k + 1, by rw [Nat.succ_mul]⟩
theorem Bd8.half {s c : Nat} (h : Bd8 (2 * s) c) : Bd8 s c := by obtain ⟨k, rfl⟩ := h; exact ⟨k * 2, by rw [Nat.mul_assoc]⟩
theorem Bd8.far {s a c : Nat} (ha : Bd8 s a) (hc : Bd8 s c) (h : a < c) : a + s ≤ c := by
 obtain ⟨k, rfl⟩ := ha
 obtain ⟨l, rfl⟩ := hc
 have hkl : k < l := by
  rcases Nat.lt_or_ge k l with h' | h'
  ·exact h'
  ·exact absurd h (Nat.not_lt.2 (Nat.mul_le_mul_right s h'))
 have := Nat.mul_le_mul_right s (show k + 1 ≤ l from hkl)
 rw [Nat.succ_mul] at this
 exact this
theorem Sg8.past {Z : List α} {a b c : Nat} (h : Sg8 key tie Z a b) (hb : Z.length ≤ b) : Sg8 key tie Z a c := by
 intro i j i1 i2 _ x y hx hy
 have hj : j < Z.length := by
  rcases Nat.lt_or_ge j Z.length with h' | h'
  ·exact h'
  ·rw [List.getElem?_eq_none h'] at hy; simp at hy
 exact h i j i1 i2 (by omega) x y hx hy
theorem Sg8.none {Z : List α} {a b : Nat} (h : Z.length ≤ a + 1) : Sg8 key tie Z a b := Sg8.past (b := a + 1) (fun i j _ _ _ => by omega) h
structure Bl1 (key : α → Int) (tie : α → α → Prop) (Z : List α) (s a : Nat) : Prop where
 at_ : Bd8 s a
 low : ∀ c, Bd8 s c → c < a → Sg8 key tie Z c (c + s)
 over : ∀ c, Bd8 s c → Cr8 key tie Z 0 c Z.length
 rest : Tg8 key tie Z a Z.length
structure Bl2 (key : α → Int) (tie : α → α → Prop) (Z : List α) (s : Nat) : Prop where
 low : ∀ c, Bd8 s c → Sg8 key tie Z c (c + s)
 over : ∀ c, Bd8 s c → Cr8 key tie Z 0 c Z.length
structure Bl3 (key : α → Int) (tie : α → α → Prop) (Z : List α) (s a : Nat) : Prop where
 at_ : Bd8 (2 * s) a
 low : ∀ c, Bd8 (2 * s) c → c < a → Sg8 key tie Z c (c + 2 * s)
 up : ∀ c, Bd8 s c → a ≤ c → Sg8 key tie Z c (c + s)
 over : ∀ c, Bd8 (2 * s) c → Cr8 key tie Z 0 c Z.length
 overs : ∀ c, Bd8 s c → a ≤ c → Cr8 key tie Z 0 c Z.length
theorem Bl1.start {Z : List α} (s : Nat) (h : Tg8 key tie Z 0 Z.length) : Bl1 key tie Z s 0 :=
 ⟨.zero s, fun c _ h => by omega, fun c _ i j i1 i2 i3 i4 => h i j i1 (by omega) i4, h⟩
theorem Bl1.step {Z Z' : List α} {s a : Nat} (h : Bl1 key tie Z s a) (hl : a + s ≤ Z.length) (hp : Pm8 Z Z' a (a + s)) (hs : Sg8 key tie Z' a (a + s)) : Bl1 key tie Z' s (a + s) := by
 refine ⟨h.at_.next, fun c hc h1 => ?_, fun c hc => ?_, fun i j i1 i2 i3 => ?_⟩
 ·by_cases e : c = a
  ·subst e; exact hs
  ·have h2 : c < a := by
    rcases Nat.lt_or_ge c a with h' | h'
    ·exact h'
    ·have := h.at_.far hc (by omega); omega
   exact (h.low c hc h2).kept hp (.inl (hc.far h.at_ h2))
 ·rw [hp.len]
  refine (h.over c hc).kept hp (Nat.zero_le _) hl ?_
  rcases Nat.lt_trichotomy c a with h' | h' | h'
  ·exact .inl (by omega)
  ·exact .inl (by omega)
  ·exact .inr (h.at_.far hc h')
 ·rw [hp.len] at i3
  exact (h.rest i j (by omega) i2 i3).same (hp.out i (by omega)) (hp.out j (by omega))
theorem Bl1.fin {Z Z' : List α} {s a : Nat} (h : Bl1 key tie Z s a) (h0 : a ≤ Z.length) (hl : Z.length < a + s) (hp : Pm8 Z Z' a Z.length) (hs : Sg8 key tie Z' a Z.length) : Bl2 key tie Z' s := by
 have hn := hp.len
 refine ⟨fun c hc => ?_, fun c hc => ?_⟩
 ·rcases Nat.lt_trichotomy c a with h' | h' | h'
  ·exact (h.low c hc h').kept hp (.inl (hc.far h.at_ h'))
  ·subst h'; exact hs.past (by omega)
  ·have := h.at_.far hc h'; exact Sg8.none (by omega)
 ·rw [hn]
  rcases Nat.lt_or_ge a c with h' | h'
  ·have := h.at_.far hc h'
   exact (h.over c hc).kept hp (Nat.zero_le _) (Nat.le_refl _) (.inr (by omega))
  ·exact (h.over c hc).kept hp (Nat.zero_le _) (Nat.le_refl _) (.inl h')
theorem Bl2.go {Z : List α} {s : Nat} (h : Bl2 key tie Z s) : Bl3 key tie Z s 0 :=
 ⟨.zero _, fun c _ h => by omega, fun c hc _ => h.low c hc, fun c hc => h.over c hc.half, fun c hc _ => h.over c hc⟩
theorem Bl3.ask {Z : List α} {s a b : Nat} (h : Bl3 key tie Z s a) (hb : b ≤ Z.length) (hb2 : b ≤ a + 2 * s) : Sg8 key tie Z a (a + s) ∧ Sg8 key tie Z (a + s) b ∧ Cr8 key tie Z a (a + s) b :=
 ⟨h.up a h.at_.half (Nat.le_refl _), (h.up (a + s) h.at_.half.next (by omega)).sub (Nat.le_refl _) (by omega), (h.overs (a + s) h.at_.half.next (by omega)).sub (Nat.zero_le _) hb⟩
theorem Bl3.step {Z Z' : List α} {s a : Nat} (h : Bl3 key tie Z s a) (hl : a + 2 * s ≤ Z.length) (hp : Pm8 Z Z' a (a + 2 * s)) (hs : Sg8 key tie Z' a (a + 2 * s)) : Bl3 key tie Z' s (a + 2 * s) := by
 refine ⟨h.at_.next, fun c hc h1 => ?_, fun c hc h1 => (h.up c hc (by omega)).kept hp (.inr h1), fun c hc => ?_, fun c hc h1 => ?_⟩
 ·by_cases e : c = a
  ·subst e; exact hs
  ·have h2 : c < a := by
    rcases Nat.lt_or_ge c a with h' | h'
    ·exact h'
    ·have := h.at_.far hc (by omega); omega
   exact (h.low c hc h2).kept hp (.inl (hc.far h.at_ h2))
 ·rw [hp.len]
  refine (h.over c hc).kept hp (Nat.zero_le _) hl ?_
  rcases Nat.lt_trichotomy c a with h' | h' | h'
  ·exact .inl (by omega)
  ·exact .inl (by omega)
  ·exact .inr (h.at_.far hc h')
 ·rw [hp.len]
  exact (h.overs c hc (by omega)).kept hp (Nat.zero_le _) hl (.inr h1)
theorem Bl3.fin {Z Z' : List α} {s a : Nat} (h : Bl3 key tie Z s a) (h0 : a ≤ Z.length) (hl : Z.length < a + 2 * s) (hp : Pm8 Z Z' a Z.length) (hs : Sg8 key tie Z' a Z.length) : Bl2 key tie Z' (2 * s) := by
 have hn := hp.len
 refine ⟨fun c hc => ?_, fun c hc => ?_⟩
 ·rcases Nat.lt_trichotomy c a with h' | h' | h'
  ·exact (h.low c hc h').kept hp (.inl (hc.far h.at_ h'))
  ·subst h'; exact hs.past (by omega)
  ·have := h.at_.far hc h'; exact Sg8.none (by omega)
 ·rw [hn]
  rcases Nat.lt_or_ge a c with h' | h'
  ·have := h.at_.far hc h'
   exact (h.over c hc).kept hp (Nat.zero_le _) (Nat.le_refl _) (.inr (by omega))
  ·exact (h.over c hc).kept hp (Nat.zero_le _) (Nat.le_refl _) (.inl h')
theorem Bl3.fin0 {Z : List α} {s a : Nat} (h : Bl3 key tie Z s a) (h0 : a ≤ Z.length) (hl : Z.length ≤ a + s) : Bl2 key tie Z (2 * s) := by
 by_cases hs : s = 0
 ·subst hs
  exact ⟨fun c _ i j i1 i2 i3 => by omega, fun c hc => h.over c hc⟩
 ·exact h.fin h0 (by omega) (.refl _ _ _) ((h.up a h.at_.half (Nat.le_refl _)).sub (Nat.le_refl _) hl)
theorem Bl2.fin {Z : List α} {s : Nat} (h : Bl2 key tie Z s) (hl : Z.length ≤ s) : Sg8 key tie Z 0 Z.length := by
 have := h.low 0 (.zero s)
 exact this.sub (Nat.le_refl _) (by omega)
theorem Sg8.pairs {Z : List α} (h : Sg8 key tie Z 0 Z.length) : Z.Pairwise (lt8 key tie) := by
 rw [List.pairwise_iff_getElem]
 intro i j hi hj hij
 exact h i j (Nat.zero_le _) hij hj _ _ (List.getElem?_eq_getElem hi) (List.getElem?_eq_getElem hj)
theorem Tg8.of {Z : List α} (h : Z.Pairwise (fun x y => key x = key y → tie x y)) : Tg8 key tie Z 0 Z.length := by
 intro i j _ hij hj x y hx hy
 rw [List.pairwise_iff_getElem] at h
 rw [List.getElem?_eq_getElem (show i < Z.length by omega)] at hx
 rw [List.getElem?_eq_getElem hj] at hy
 obtain rfl := Option.some.inj hx
 obtain rfl := Option.some.inj hy
 exact h i j (by omega) hj hij
end
end Go.Proofs.YtmpcmllfgogegaaGreat
namespace Go.Proofs.YtmpcmllfgogegaaGreat
open Go.RowKit Go.ChangeMaps
abbrev Ri (W : World) (B g n cap : Nat) (Z : List Int) : Prop := W.ownsRow B 3 1 (.slice (some ⟨g, 0, none⟩) n cap) n (Z.map (Value.int .i64))
abbrev kI : Int → Int := fun x => x
abbrev tI : Int → Int → Prop := fun _ _ => True
theorem Cr8.off {α : Type} {key : α → Int} {tie : α → α → Prop} {Z Z' : List α} {a b c m d : Nat} (h : Cr8 key tie Z c m d) (hp : Pm8 Z Z' a b) (hd : d ≤ a ∨ b ≤ c) : Cr8 key tie Z' c m d :=
 fun i j h1 h2 h3 h4 => (h i j h1 h2 h3 h4).same (hp.out i (by omega)) (hp.out j (by omega))
end Go.Proofs.YtmpcmllfgogegaaGreat
