/- Sat, Mj, Skn, Sapp, Sok, Seal, SpecSeal, Tkk, Mkz, Mk, Tkz, Tie, Tif, Tih, Tij, Tip, Tiq, Bqq, Tjf. -/
import Derived.Test.YtocfggfccbnbhaaGreatDoorR2
import Derived.Deep.RegionHeld3
import Derived.Test.YtocfggfccbnbhaaGreatDoorProg
import Derived.WalkKit
import Derived.WalkSpells
import Derived.WalkLawsBesides
import Derived.Deep.QuietTactic
import Derived.BigQuiet
import Derived.Lib.ItoaNum
import Derived.Shelf.Spec.SlicesInsertGrow
import Derived.Shelf.Slices.SearchI
import Derived.Shelf.Slices.Empties
import Derived.Test.YtocfggfccbnbhaaGreatDoorTie
namespace Go.Proofs.YtocfggfccbnbhaaGreatDoor
open Go.RowKit Go.ChangeMaps
def isG (g : Int) (x : X7) : Bool := decide (x.1 = g)
end Go.Proofs.YtocfggfccbnbhaaGreatDoor

namespace Go.Proofs.YtocfggfccbnbhaaGreatDoor
open Go.RowKit Go.ChangeMaps
theorem alr_at {nx : Int} {G : List Int} {L : List M4} (h : alr nx G L = true) {i : Nat} (hi : i < L.length) : L[i].2.1 < nx ∧ us L i < L[i].2.1 ∧ inl L[i].1 G = false := by
  unfold alr at h
  have h1 := List.all_eq_true.1 h i (List.mem_range.2 hi)
  rw [stp_at hi (g := L[i].1) (u := L[i].2.1) (l := L[i].2.2.1) (t := L[i].2.2.2) rfl] at h1
  simp only [Bool.and_eq_true, decide_eq_true_eq, Bool.not_eq_true'] at h1
  exact ⟨h1.2.1, h1.2.2.1, h1.2.2.2⟩
theorem alr_asc {nx : Int} {G : List Int} {L : List M4} (h : alr nx G L = true) : ∀ (j i : Nat) (hj : j < L.length) (hij : i < j), L[i].2.1 < L[j].2.1 := by
  intro j
  induction j with
  | zero => intro i hj hij; omega
  | succ j ih =>
    intro i hj hij
    have h1 := (alr_at h hj).2.1
    rw [us_succ (by omega)] at h1
    by_cases e : i = j
    · subst e; exact h1
    · have := ih i (by omega) (by omega)
      omega
theorem alr_upr {nx : Int} {G : List Int} {L : List M4} (h : alr nx G L = true) : Upr L :=
  List.pairwise_iff_getElem.2 fun i j _ hj hij => alr_asc h j i hj hij
/-- The new mail. -/
def nwm (gid nx fl : Int) (tx : ByteArray) (st sb : Int) : M4 := (gid, nx, fnew fl st sb, tx)
def flr (fl : Int) : Bool := decide (0 ≤ fl) && decide (fl ≤ 7)
/-- Whether a mail can be added. -/
def amOk (g : Int) (nm : ByteArray) (t b nx : Int) (L : List M4) (G : List Int) (gid fl : Int) (tx : ByteArray) (st sb : Int) : Bool :=
  bxOk g nm t b nx L G && (!(L.any (fun m => decide (m.1 = gid))) && (!(inl gid G) && (flr fl && bxOk g nm t b (nx + 1) (L ++ [nwm gid nx fl tx st sb]) G)))
def amL (p : Bool) (L : List M4) (m : M4) : List M4 := if p = true then L ++ [m] else L
def amN (p : Bool) (nx : Int) : Int := if p = true then nx + 1 else nx
end Go.Proofs.YtocfggfccbnbhaaGreatDoor
namespace Go.Proofs.YtocfggfccbnbhaaGreatDoor
open Go.RowKit Go.ChangeMaps
end Go.Proofs.YtocfggfccbnbhaaGreatDoor
namespace Go.Proofs.YtocfggfccbnbhaaGreatDoor
open Go.RowKit Go.ChangeMaps
end Go.Proofs.YtocfggfccbnbhaaGreatDoor

namespace Go.Proofs.YtocfggfccbnbhaaGreatDoor
open Go.RowKit Go.ChangeMaps
/-- A box or its lists have this Gid. -/
def hasG (x : Int) (b : X7) : Bool := b.2.2.2.2.2.1.any (fun m => decide (m.1 = x)) || inl x b.2.2.2.2.2.2
def kno (x : Int) (S : List X7) (G : List Int) : Bool := S.any (isG x) || (inl x G || S.any (hasG x))
end Go.Proofs.YtocfggfccbnbhaaGreatDoor

namespace Go.Proofs.YtocfggfccbnbhaaGreatDoor
open Go.RowKit Go.ChangeMaps
/-- The same where the order is given. -/
theorem wpList_append_bx {ops : Array Oper} {rest : List Oper} {o : Oper} {a : Act} {w : World} {Q : Exit → Act → World → Prop} (hgd : o.guard = none) (s x : Operand)
    (hop : o.op = .call { callee := .builtin .append, args := #[s, x], argTypes := #[24, 24] })
    (B : Nat) (v : Value) (Y : List Y9) (hs : a.eval s = v) (y : Y9) (hown : OwS w B v Y) (ho : OwX w y.lo y.hi y.mv y.gv y.L y.G) (hB : B ≤ y.lo) (hv : ∀ j, v.ownBlock = some j → j < y.lo ∨ y.hi ≤ j) (hd : ∀ x ∈ Y, x.hi ≤ y.lo ∨ y.hi ≤ x.lo)
    (hx : a.eval x = .slice (some ⟨w.heap.size, 0, none⟩) 1 1) (hlen : Y.length ≤ 1048576) (hBw : B ≤ w.heap.size)
    (hK : ∀ v' w', OwS w' B v' (Y ++ [y]) → Below B w w' → (w.alloc (.cells #[.int .i64 y.g, .string y.nm, .int .i64 y.t, .int .i64 y.b, .int .i64 y.nx, y.mv, y.gv] 38)).grownBy w' v.ownBlock → (∀ j, v'.ownBlock = some j → v.ownBlock = some j ∨ w.heap.size < j) → wpList Tryz.prog ops Q rest (a.put o.dst v') w') :
    wpList Tryz.prog ops Q (o :: rest) a (w.alloc (.cells #[.int .i64 y.g, .string y.nm, .int .i64 y.t, .int .i64 y.b, .int .i64 y.nx, y.mv, y.gv] 38)) := by
  obtain ⟨i0, hi, hz0, hz1, hz2⟩ := info_parts3 info_bx
  refine wpList_append_own_at _ hgd s x 24 hop B 38 i0 _ 7 96 Tryz.underlying24 hi hz0 hz1 hz2 rfl (by decide) v _ _ hs (hown.row.alloc _) ⟨w.heap.size, 0, none⟩ 1 1 (yc [y]) hx rfl (cells_new7 w y 38) (yc_one ho.slices.1 ho.slices.2) (by unfold maxLen; omega) (by omega) (by simp; omega) ?_
  intro v' w' h2 h3 h4 h5
  have hloc : ∀ j, v'.ownBlock = some j → v.ownBlock = some j ∨ w.heap.size < j := fun j hj => by
    rcases h5 with h5 | h5
    · exact .inl (by rw [← h5]; exact hj)
    · rw [h5] at hj; simp at hj; exact .inr (by omega)
  exact hK v' w' (hown.snoc y ho hB hv hd _ (by rw [yc_app]; simpa using h2) h3 hloc) (((Below.refl B w).alloc hBw _).grown h3 (by simp; omega) (fun k hk => (hown.row.lt k hk).1)) h3 hloc
end Go.Proofs.YtocfggfccbnbhaaGreatDoor

namespace Go.Proofs.YtocfggfccbnbhaaGreatDoor
open Go.RowKit Go.ChangeMaps
theorem pg_zero (S : List X7) : pg S 0 = 0 := rfl
end Go.Proofs.YtocfggfccbnbhaaGreatDoor

namespace Go.Proofs.YtocfggfccbnbhaaGreatDoor
open Go.RowKit
theorem size_cut (s : ByteArray) (n : Nat) (h : n ≤ s.size) : (s.extract 0 n).size = n := by simp; omega
/-- What the two callees answer at a text u whose sum is z, in the four bytes t: all as letters. -/
theorem seal_parts (u : ByteArray) (hu : u.size ≤ 1048577) : ∃ (z : Nat) (t : ByteArray), sof u = z ∧ tail4 u = t ∧ t.size = 4 ∧
    (∀ W : World, Nib W → Calls Tryz.prog 88 #[.string u] W fun e w' => e = .returned (.int .u32 (z : Int)) ∧ W = w') ∧
    (∀ W : World, Calls Tryz.prog 89 #[.int .u32 (z : Int)] W fun e w' => e = .returned (.string t) ∧ Below W.heap.size W w') :=
  ⟨sof u, tail4 u, rfl, rfl, rfl, fun W hW => implOf_any u W hu hW, fun W => implBytes_any (sof u) W (sof_lt u)⟩
theorem implUnsealed_yes (s : ByteArray) (n : Nat) (w : World) (hl : s.size = n + 4) (hs : n ≤ 20000) (hn : Nib w) (he : tail4 (s.extract 0 n) = s.extract n s.size) :
    Calls Tryz.prog 40 #[.string s] w fun e w' => e = .returned (.tuple #[.string (s.extract 0 n), .bool true]) ∧ Below w.heap.size w w' := by
  have hcut : (s.extract 0 n).size = n := size_cut s n (by omega)
  obtain ⟨z, t, hz, ht, hts, h21, h32⟩ := seal_parts (s.extract 0 n) (by omega)
  rw [ht] at he
  obtain ⟨u, hu⟩ : ∃ u, s.extract 0 n = u := ⟨_, rfl⟩
  rw [hu] at hcut h21 hz ht
  have hcl : ∀ W : World, Calls Tryz.prog 90 #[.string u] W fun e w' => e = .returned (.string u) ∧ Below W.heap.size W w' := fun W => clone_any u W (by omega)
  have HN := hide hn
  have H21 := hide h21
  have H32 := hide h32
  have HCL := hide hcl
  have hli : (s.size : Int) - 4 = (n : Int) := by omega
  have hle : n ≤ s.size := by omega
  have hlm : s.size ≤ 20004 := by omega
  have hv : s.extract n s.size = t := he.symm
  have htt : (!t.toList == t.toList) = false := by simp
  clear hl hn he h21 h32 hcl hz ht hts hcut
  go_enter Tryz.func40, Tryz.ntmps40
  go_wp2_with fail
  go_region_held3 (fun _ => True) (trivial) ((first
    | (go_at_call 88; refine (unhide H21 _ (by exact unhide HN)).mono ?_; rintro e w1 ⟨rfl, rfl⟩)
    | (go_at_call 89; refine (unhide H32 _).mono ?_; rintro e w1 ⟨rfl, hb1⟩)))
  go_wp2_with fail
  refine (unhide HCL _).mono ?_; rintro e w2 ⟨rfl, hb2⟩
  go_wp2
  go_ret2
  exact ⟨by rw [hu]; rfl, (Below.refl _ w).drew.trans (hb1.trans (hb2.mono hb1.size))⟩
theorem implUnsealed_size (s : ByteArray) (w : World) (hm : s.size ≤ 1048576) (h : s.size < 4 ∨ 20004 < s.size) :
    Calls Tryz.prog 40 #[.string s] w fun e w' => e = .returned (.tuple #[.string ⟨#[]⟩, .bool false]) ∧ w = w' := by
  rcases h with h | h
  · have h1 : (s.size : Int) - 4 < 0 := by omega
    go_enter Tryz.func40, Tryz.ntmps40
    go_wp2
    go_ret2
    exact ⟨rfl, rfl⟩
  · have h0 : ¬ (s.size : Int) - 4 < 0 := by omega
    have h1 : (20000 : Int) < (s.size : Int) - 4 := by omega
    go_enter Tryz.func40, Tryz.ntmps40
    go_wp2
    go_ret2
    exact ⟨rfl, rfl⟩
theorem implUnsealed_no (s : ByteArray) (n : Nat) (w : World) (hl : s.size = n + 4) (hs : n ≤ 20000) (hn : Nib w) (he : tail4 (s.extract 0 n) ≠ s.extract n s.size) :
    Calls Tryz.prog 40 #[.string s] w fun e w' => e = .returned (.tuple #[.string ⟨#[]⟩, .bool false]) ∧ Below w.heap.size w w' := by
  have hcut : (s.extract 0 n).size = n := size_cut s n (by omega)
  obtain ⟨z, t, hz, ht, hts, h21, h32⟩ := seal_parts (s.extract 0 n) (by omega)
  rw [ht] at he
  obtain ⟨u, hu⟩ : ∃ u, s.extract 0 n = u := ⟨_, rfl⟩
  rw [hu] at hcut h21 hz ht
  obtain ⟨v, hv⟩ : ∃ v, s.extract n s.size = v := ⟨_, rfl⟩
  rw [hv] at he
  have HN := hide hn
  have H21 := hide h21
  have H32 := hide h32
  have hli : (s.size : Int) - 4 = (n : Int) := by omega
  have hle : n ≤ s.size := by omega
  have hlm : s.size ≤ 20004 := by omega
  have htt : (!t.toList == v.toList) = true := by simp; intro h; exact he (bytes_eq h)
  clear hl hn he h21 h32 hz ht hts hcut
  go_enter Tryz.func40, Tryz.ntmps40
  go_wp2_with fail
  go_region_held3 (fun _ => True) (trivial) ((first
    | (go_at_call 88; refine (unhide H21 _ (by exact unhide HN)).mono ?_; rintro e w1 ⟨rfl, rfl⟩)
    | (go_at_call 89; refine (unhide H32 _).mono ?_; rintro e w1 ⟨rfl, hb1⟩)))
  go_wp2
  go_ret2
  exact ⟨rfl, (Below.refl _ w).drew.trans hb1⟩
end Go.Proofs.YtocfggfccbnbhaaGreatDoor

namespace Go.Proofs.YtocfggfccbnbhaaGreatDoor
open Go.RowKit
/-- What the two callees of the model answer, all as letters. -/
theorem specSeal_parts (u : ByteArray) (hu : u.size ≤ 1048577) : ∃ (z : Nat) (t : ByteArray), tail4 u = t ∧
    (∀ W : World, Calls Tryz.prog 99 #[.string u] W fun e w' => e = .returned (.int .u32 (z : Int)) ∧ W = w') ∧
    (∀ W : World, Calls Tryz.prog 98 #[.int .u32 (z : Int)] W fun e w' => e = .returned (.string t) ∧ Below W.heap.size W w') :=
  ⟨sof u, tail4 u, rfl, fun W => specOf_any u W hu, fun W => specFour_any (sof u) W (sof_lt u)⟩
theorem specUnsealed_size (s : ByteArray) (w : World) (hm : s.size ≤ 1048576) (h : s.size < 4 ∨ 20004 < s.size) :
    Calls Tryz.prog 44 #[.string s] w fun e w' => e = .returned (.tuple #[.string ⟨#[]⟩, .bool false]) ∧ Below w.heap.size w w' := by
  have hlm : s.size ≤ 1048576 := hm
  obtain ⟨m, hmi⟩ : ∃ m : Int, (s.size : Int) - 4 = m := ⟨_, rfl⟩
  rcases h with h | h
  · have hd0 : decide (m < 0) = true := by simp; omega
    clear h hm
    go_enter Tryz.func44, Tryz.ntmps44
    go_wp2_with fail
    go_region
    all_goals go_wp2
    all_goals go_ret2
    all_goals exact ⟨rfl, (Below.refl _ _).drew⟩
  · have hd0 : decide (m < 0) = false := by simp; omega
    have hd1 : decide ((20000 : Int) < m) = true := by simp; omega
    clear h hm
    go_enter Tryz.func44, Tryz.ntmps44
    go_wp2_with fail
    go_region
    all_goals go_wp2
    all_goals go_ret2
    all_goals exact ⟨rfl, (Below.refl _ _).drew⟩
theorem specUnsealed_yes (s : ByteArray) (n : Nat) (w : World) (hl : s.size = n + 4) (hs : n ≤ 20000) (he : tail4 (s.extract 0 n) = s.extract n s.size) :
    Calls Tryz.prog 44 #[.string s] w fun e w' => e = .returned (.tuple #[.string (s.extract 0 n), .bool true]) ∧ Below w.heap.size w w' := by
  have hcut : (s.extract 0 n).size = n := size_cut s n (by omega)
  obtain ⟨z, t, ht, h21, h32⟩ := specSeal_parts (s.extract 0 n) (by omega)
  rw [ht] at he
  obtain ⟨u, hu⟩ : ∃ u, s.extract 0 n = u := ⟨_, rfl⟩
  rw [hu] at hcut h21 ht
  have H21 := hide h21
  have H32 := hide h32
  have hli : (s.size : Int) - 4 = (n : Int) := by omega
  have hle : n ≤ s.size := by omega
  have hlm : s.size ≤ 20004 := by omega
  have hv : s.extract n s.size = t := he.symm
  have htt : (!t.toList == t.toList) = false := by simp
  have hd0 : decide ((n : Int) < 0) = false := by simp
  have hd1 : decide ((20000 : Int) < (n : Int)) = false := by simp; omega
  clear hl he h21 h32 ht hcut
  go_enter Tryz.func44, Tryz.ntmps44
  go_wp2_with fail
  go_region_held3 (fun _ => True) (trivial) ((first
    | (go_at_call 99; refine (unhide H21 _).mono ?_; rintro e w1 ⟨rfl, rfl⟩)
    | (go_at_call 98; refine (unhide H32 _).mono ?_; rintro e w1 ⟨rfl, hb1⟩)))
  go_wp2
  go_ret2
  exact ⟨by rw [hu]; rfl, (Below.refl _ w).drew.trans hb1⟩
theorem specUnsealed_no (s : ByteArray) (n : Nat) (w : World) (hl : s.size = n + 4) (hs : n ≤ 20000) (he : tail4 (s.extract 0 n) ≠ s.extract n s.size) :
    Calls Tryz.prog 44 #[.string s] w fun e w' => e = .returned (.tuple #[.string ⟨#[]⟩, .bool false]) ∧ Below w.heap.size w w' := by
  have hcut : (s.extract 0 n).size = n := size_cut s n (by omega)
  obtain ⟨z, t, ht, h21, h32⟩ := specSeal_parts (s.extract 0 n) (by omega)
  rw [ht] at he
  obtain ⟨u, hu⟩ : ∃ u, s.extract 0 n = u := ⟨_, rfl⟩
  rw [hu] at hcut h21 ht
  obtain ⟨v, hv⟩ : ∃ v, s.extract n s.size = v := ⟨_, rfl⟩
  rw [hv] at he
  have H21 := hide h21
  have H32 := hide h32
  have hli : (s.size : Int) - 4 = (n : Int) := by omega
  have hle : n ≤ s.size := by omega
  have hlm : s.size ≤ 20004 := by omega
  have htt : (!v.toList == t.toList) = true := by simp; intro h; exact he (bytes_eq h).symm
  have hd0 : decide ((n : Int) < 0) = false := by simp
  have hd1 : decide ((20000 : Int) < (n : Int)) = false := by simp; omega
  clear hl he h21 h32 ht hcut
  go_enter Tryz.func44, Tryz.ntmps44
  go_wp2_with fail
  go_region_held3 (fun _ => True) (trivial) ((first
    | (go_at_call 99; refine (unhide H21 _).mono ?_; rintro e w1 ⟨rfl, rfl⟩)
    | (go_at_call 98; refine (unhide H32 _).mono ?_; rintro e w1 ⟨rfl, hb1⟩)))
  go_wp2
  go_ret2
  exact ⟨rfl, (Below.refl _ w).drew.trans hb1⟩
end Go.Proofs.YtocfggfccbnbhaaGreatDoor

namespace Go.Proofs.YtocfggfccbnbhaaGreatDoor
open Go.RowKit Go.ChangeMaps
section
variable {P : Program} {ops : Array Oper} {Q : Exit → Act → World → Prop} {md : Region.Mode} {S : World → Prop} {d : Option Tmp} {o : Op} {t : TypeId} {ps : String} {af : Array Edge} {gd : Option (Nat × Bool)} {v : Value} {fuel : Nat} {listed : Array Bool} {a a2 : Act} {w : World}
theorem tn (i : Nat) (h : wpAnyH P md ops Q S fuel (listed.setIfInBounds i true) a2 w)
    (hi : ops[i]? = some ⟨d, o, t, ps, af, gd⟩ := by (first | (simp only [List.getElem?_toArray, List.getElem?_cons_succ, List.getElem?_cons_zero]; rfl) | rfl)) (hs : Region.noSelect ops = true := by kernel_rfl) (hf : Region.free md ops listed i = true := by kernel_rfl) (hr : (Region.ready md ops listed).contains i = true := by kernel_rfl)
    (hw : Region.wanted ⟨d, o, t, ps, af, gd⟩ (yielded ops a.tmps) = false := by rfl) (hS : S w := by assumption)
    (hQ : ∀ c a w, Q (.panic c) (a.put d undef) w → Q (.panic c) a w := by exact fun _ _ _ h => h)
    (hp : a.put d undef = a2 := by (first | (simp only [tp0, tp1, tp2, tp3, tp4]; done) | (simp only [tp0, tp1, tp2, tp3, tp4]; rfl) | rfl)) : wpAnyH P md ops Q S (fuel + 1) listed a w :=
  wpAnyH_take hi hs hf hr hQ (Or.inr ⟨hw, rfl⟩) hS (by subst hp; exact h)
end
end Go.Proofs.YtocfggfccbnbhaaGreatDoor

namespace Go.Proofs.YtocfggfccbnbhaaGreatDoor
open Go.RowKit Go.ChangeMaps
theorem mdg_small (n : Nat) (h : n < 10) : mdg n = [UInt8.ofNat (48 + n)] := by unfold mdg; rw [Lib.decDigits, dif_pos h]
theorem mdg_big (n : Nat) (h : ¬ n < 10) : mdg n = mdg (n / 10) ++ [UInt8.ofNat (48 + n % 10)] := by unfold mdg; rw [Lib.decDigits, dif_neg h]
theorem mdg_len : ∀ (k n : Nat), n < 10 ^ (k + 1) → (mdg n).length ≤ k + 1
  | 0, n, h => by rw [mdg_small n (by simpa using h)]; simp
  | k + 1, n, h => by
    by_cases hn : n < 10
    · rw [mdg_small n hn]; simp
    · rw [mdg_big n hn]
      have := mdg_len k (n / 10) (by rw [Nat.pow_succ] at h; omega)
      simp; omega
def mdz (n : Nat) : List UInt8 := if n = 0 then [] else mdg n
theorem mdz_pos (n : Nat) (h : n ≠ 0) : mdz n = mdg n := by simp [mdz, h]
theorem mdz_step (m : Nat) (h : m ≠ 0) : mdz m = mdz (m / 10) ++ [UInt8.ofNat (48 + m % 10)] := by
  rw [mdz_pos m h]
  by_cases h1 : m < 10
  · rw [mdg_small m h1, show m / 10 = 0 by omega, show mdz 0 = [] from rfl, show m % 10 = m by omega]; rfl
  · rw [mdg_big m h1, mdz_pos _ (by omega)]
theorem mu8 (x : Nat) (h : x < 10) : ((UInt8.ofNat (48 + x)).toNat : Int) = 48 + (x : Int) := by rw [u8_nat _ (by omega)]; omega
theorem mrun_one (b : UInt8) (w : World) : (convert 22 9 (.slice (some ⟨w.heap.size, 0, none⟩) 1 1)).run Tryz.prog (w.alloc (.cells #[.int .u8 (b.toNat : Int)] 5)) = .ok (.string ⟨#[b]⟩) (w.alloc (.cells #[.int .u8 (b.toNat : Int)] 5)) :=
  run_string_own (P := Tryz.prog) _ 22 9 5 Tryz.underlying22 Tryz.underlying5 Tryz.underlying9 [b] (World.ownsRow_lit (base := 0) w #[bv b] 1 (Nat.zero_le _) (by decide) rfl)
theorem mba_cons (b : UInt8) (t : List UInt8) : (⟨#[b]⟩ ++ ⟨t.toArray⟩ : ByteArray) = ⟨(b :: t).toArray⟩ := by
  apply ByteArray.ext
  rw [ByteArray.data_append]
  simp
set_option maxHeartbeats 400000 in
theorem markText_any (k : Nat) (w : World) (hk : 0 < k) (hk2 : k ≤ 9000000) :
    Calls Tryz.prog 123 #[.int .i64 k] w fun e w' => e = .returned (.string (mtx6 k)) ∧ Below w.heap.size w w' := by
  have hl := mdg_len 7 k (by omega)
  have hk0 : k ≠ 0 := by omega
  go_enter Tryz.func123, Tryz.ntmps123
  go_wp2
  go_loopw [0, 3] (fun nv tv wr => ∃ (m : Nat) (t : List UInt8), nv = .int .i64 (m : Int) ∧ tv = .string ⟨t.toArray⟩ ∧ m ≤ k ∧ Hid (mdz m ++ t = mdg k) ∧ t.length ≤ 8 ∧ Below w.heap.size w wr) (fun nv _ _ => (intOf nv).toNat)
  case atStart => exact ⟨k, [], rfl, rfl, Nat.le_refl _, (by show _ = _; rw [mdz_pos k hk0]; simp), by simp, bre _⟩
  case round =>
    obtain ⟨m, t, rfl, rfl, hm, HT, htl, hb⟩ := hrel
    have HB := hid hb
    have hsz := hb.size
    have HSZ := hid hsz
    clear hb hk0 hsz
    by_cases hz : 0 < m
    · obtain ⟨d, hd⟩ : ∃ d : Nat, m % 10 = d := ⟨_, rfl⟩
      have hdi : (m : Int) % 10 = (d : Int) := by omega
      have hdb : d < 10 := by omega
      have HD := hid hd
      obtain ⟨b, hbb⟩ : ∃ b, b = UInt8.ofNat (48 + d) := ⟨_, rfl⟩
      have hbi : (48 : Int) + (d : Int) = (b.toNat : Int) := by rw [hbb, mu8 d hdb]
      have HBB := hid hbb
      have hone := mrun_one b wr
      have HT2 : Hid (mdz (m / 10) ++ (b :: t) = mdg k) := by show _ = _; rw [← HT.out, mdz_step m (by omega), HD.out, ← HBB.out]; simp
      have HTL : Hid ((b :: t).length ≤ 8) := by
        show _ ≤ _
        have h1 := congrArg List.length HT2.out
        simp only [List.length_append] at h1
        omega
      clear hd hbb
      go_wp2
      go_roundw
      case rel => exact ⟨m / 10, b :: t, by go_num, by rw [mba_cons], by omega, HT2, HTL.out, HB.out.alloc HSZ.out _⟩
      case measure => simp [intOf]; omega
    · have HZ : Hid (m = 0) := by show m = 0; omega
      go_wp2
      go_ret
      exact ⟨ret_str (by rw [mba_cons, mtx6, ← HT.out, HZ.out]; rfl), HB.out⟩
/-! Numbers marked. -/
theorem mki_len (k n : Nat) : (mki k n).length = n := by simp [mki]
theorem mki_at (k n i : Nat) (h : i < (mki k n).length) : (mki k n)[i] = ((k + i : Nat) : Int) := by simp [mki]
theorem mki_succ (k n : Nat) : mki k (n + 1) = mki k n ++ [((k + n : Nat) : Int)] := by simp [mki, List.range_succ]
set_option maxHeartbeats 800000 in
set_option maxRecDepth 100000 in
theorem markIS_any (B : Nat) (a : Option Addr) (n cap k : Nat) (G : List Int) (w : World) (hown : OwI w B (.slice a n cap) G) (hl : G.length = n) (hn : n ≤ 1048576) (hk : k ≤ 8000000) :
    Calls Tryz.prog 81 #[.slice a n cap, .int .i64 (k : Int)] w fun e w' => e = .returned (.int .i64 ((k + n : Nat) : Int)) ∧ OwI w' B (.slice a n cap) (mki k n) ∧ w.grownBy w' (Value.ownBlock (.slice a n cap)) := by
  have HO := hid hown
  have HL := hid hl
  clear hown hl
  go_enter Tryz.func81, Tryz.ntmps81
  go_wp2
  go_loopw [1, 5] (fun kv iv wr => ∃ i : Nat, i ≤ n ∧ kv = .int .i64 ((k + i : Nat) : Int) ∧ iv = .int .i64 (i : Int) ∧ OwI wr B (.slice a n cap) (mki k i ++ G.drop i) ∧ w.grownBy wr (Value.ownBlock (.slice a n cap))) (fun _ iv _ => n - (intOf iv).toNat)
  case atStart => exact ⟨0, Nat.zero_le _, by simp, rfl, by simpa [mki] using HO.out, wre _ _⟩
  case round =>
    obtain ⟨i, hi, rfl, rfl, hown, hg⟩ := hrel
    have HOW := hid hown
    have HG := hid hg
    clear hown hg
    by_cases hlt : i < n
    · have hil : i < G.length := by rw [HL.out]; exact hlt
      rcases HOW.out.2 with ⟨h1, h2⟩ | ⟨g, cap', cur, h1, hB, _⟩
      · have := HOW.out.1
        rw [List.length_append, mki_len, List.length_drop] at h2
        omega
      simp only [Value.slice.injEq] at h1
      obtain ⟨rfl, -, rfl⟩ := h1
      have hyl : i < (mki k i ++ G.drop i).length := by rw [List.length_append, mki_len, List.length_drop]; omega
      obtain ⟨k', o', e', hk', c1⟩ := (OwI.is HOW.out).2.at hyl
      simp only [Option.some.injEq, Addr.mk.injEq, and_true] at e'
      obtain ⟨rfl, rfl⟩ := e'
      simp only [Nat.zero_add] at c1
      obtain ⟨x, hx⟩ : ∃ x, (mki k i ++ G.drop i)[i] = x := ⟨_, rfl⟩
      rw [hx] at c1
      have hnn := (OwI.is HOW.out).1
      have hfz := World.ownsRow.frozenAt (n := (mki k i ++ G.drop i).length) (by have h := HOW.out; rw [hnn] at h; exact h) i
      have hst := OwI.stored HOW.out i ((k + i : Nat) : Int)
      have hnew : (mki k i ++ G.drop i).set i ((k + i : Nat) : Int) = mki k (i + 1) ++ G.drop (i + 1) := by
        rw [List.set_append_right _ _ (by rw [mki_len]; omega), mki_len, Nat.sub_self, List.drop_eq_getElem_cons hil, List.set_cons_zero, mki_succ, List.append_assoc]
        rfl
      rw [hnew] at hst
      have HST := hid hst
      obtain ⟨q, hq⟩ : ∃ q : Nat, k + i = q := ⟨_, rfl⟩
      have HQ := hid hq
      have hqb : q ≤ 9100000 := by omega
      rw [hq] at HST ⊢
      clear hq hst hnew hx hnn hyl
      go_wp2
      go_roundw
      case rel => exact ⟨i + 1, by omega, by rw [show ((k + (i + 1) : Nat) : Int) = (q : Int) + 1 by have := HQ.out; omega], by go_num, HST.out, wst HG.out _ _⟩
      case measure => simp [intOf]; omega
    · have HN : Hid (i = n) := by show _ = _; omega
      have HD : Hid (G.drop i = []) := List.drop_of_length_le (by rw [HL.out]; omega)
      go_wp2
      go_ret
      refine ⟨by rw [HN.out]; rfl, ?_, HG.out⟩
      have h := HOW.out
      rw [HD.out, List.append_nil, HN.out] at h
      exact h
set_option maxHeartbeats 800000 in
set_option maxRecDepth 100000 in
theorem heldIS_any (B : Nat) (a : Option Addr) (n cap k : Nat) (w : World) (hown : OwI w B (.slice a n cap) (mki k n)) (hn : n ≤ 1048576) (hk : k ≤ 8000000) :
    Calls Tryz.prog 83 #[.slice a n cap, .int .i64 (k : Int)] w fun e w' => e = .returned (.int .i64 ((k + n : Nat) : Int)) ∧ w' = w := by
  have HO := hid hown
  clear hown
  go_enter Tryz.func83, Tryz.ntmps83
  go_wp2
  go_loop [1, 5] (fun kv iv => ∃ i : Nat, i ≤ n ∧ kv = .int .i64 ((k + i : Nat) : Int) ∧ iv = .int .i64 (i : Int)) (fun _ iv => n - (intOf iv).toNat)
  case atStart => exact ⟨0, Nat.zero_le _, by simp, rfl⟩
  case round =>
    obtain ⟨i, hi, rfl, rfl⟩ := hrel
    by_cases hlt : i < n
    · have hil : i < (mki k n).length := by rw [mki_len]; exact hlt
      obtain ⟨k', o', rfl, hk', c⟩ := (OwI.is HO.out).2.at hil
      rw [mki_at] at c
      obtain ⟨q, hq⟩ : ∃ q : Nat, k + i = q := ⟨_, rfl⟩
      have HQ := hid hq
      have hqb : q ≤ 9100000 := by omega
      rw [hq] at c ⊢
      have e1 : ((q : Int) != (q : Int)) = false := by simp
      clear hq
      go_wp2
      go_round
      case rel => exact ⟨i + 1, by omega, by rw [show ((k + (i + 1) : Nat) : Int) = (q : Int) + 1 by have := HQ.out; omega], by go_num⟩
      case measure => simp [intOf]; omega
    · have HN : Hid (i = n) := by show _ = _; omega
      go_wp2
      go_ret
      exact ⟨by rw [HN.out]; rfl, rfl⟩
end Go.Proofs.YtocfggfccbnbhaaGreatDoor
namespace Go.Proofs.YtocfggfccbnbhaaGreatDoor
open Go.RowKit Go.ChangeMaps
theorem Chg.of_below {P : Nat → Prop} {A B : World} (h : Below A.heap.size A B) : Chg P A B := ⟨h.os, h.tape, h.output, h.size, fun k hk _ => h.block k hk⟩
def kz (k : Nat) : List Z5 → Nat
  | [] => k
  | z :: Z => kz (kz1 k z) Z
theorem mzs_len (k : Nat) (Z : List Z5) : (mzs k Z).length = Z.length := by
  induction Z generalizing k with
  | nil => rfl
  | cons z Z ih => simp [mzs, ih]
theorem mzs_snoc (k : Nat) (Z : List Z5) (z : Z5) : mzs k (Z ++ [z]) = mzs k Z ++ [mz1 (kz k Z) z] := by
  induction Z generalizing k with
  | nil => rfl
  | cons y Z ih => simp [mzs, kz, ih]
theorem kz_snoc (k : Nat) (Z : List Z5) (z : Z5) : kz k (Z ++ [z]) = kz1 (kz k Z) z := by
  induction Z generalizing k with
  | nil => rfl
  | cons y Z ih => simp [kz, ih]
theorem kz_le (k : Nat) (Z : List Z5) : k ≤ kz k Z := by
  induction Z generalizing k with
  | nil => exact Nat.le_refl _
  | cons z Z ih =>
    have h := ih (kz1 k z)
    have e2 : kz1 k z = k + 2 + z.2.2.2.1.length * 3 + 1 := rfl
    show k ≤ kz (kz1 k z) Z
    omega
theorem kz_fz (k : Nat) (Z : List Z5) : kz k Z = k + 3 * fz (Z.map md) := by
  induction Z generalizing k with
  | nil => simp [kz, fz]
  | cons z Z ih =>
    have h := ih (kz1 k z)
    have e : fz ((z :: Z).map md) = 1 + z.2.2.2.1.length + fz (Z.map md) := rfl
    have e2 : kz1 k z = k + 2 + z.2.2.2.1.length * 3 + 1 := rfl
    rw [e]
    show kz (kz1 k z) Z = _
    omega
theorem kz_take (k : Nat) (Z : List Z5) (i : Nat) : kz k (Z.take i) ≤ kz k Z := by
  induction Z generalizing k i with
  | nil => simp [kz]
  | cons z Z ih =>
    cases i with
    | zero =>
      have h := kz_le (kz1 k z) Z
      have e2 : kz1 k z = k + 2 + z.2.2.2.1.length * 3 + 1 := rfl
      show k ≤ kz (kz1 k z) Z
      omega
    | succ i => simp only [List.take_succ_cons, kz]; exact ih _ _
theorem mzs_at (k : Nat) (Z : List Z5) (i : Nat) (h : i < Z.length) (h' : i < (mzs k Z).length) : (mzs k Z)[i] = mz1 (kz k (Z.take i)) Z[i] := by
  induction Z generalizing k i with
  | nil => simp at h
  | cons z Z ih =>
    cases i with
    | zero => rfl
    | succ i => exact ih (kz1 k z) i (by simpa using h) (by simpa [mzs] using h')
end Go.Proofs.YtocfggfccbnbhaaGreatDoor
namespace Go.Proofs.YtocfggfccbnbhaaGreatDoor
open Go.RowKit Go.ChangeMaps
end Go.Proofs.YtocfggfccbnbhaaGreatDoor
namespace Go.Proofs.YtocfggfccbnbhaaGreatDoor
open Go.RowKit Go.ChangeMaps
end Go.Proofs.YtocfggfccbnbhaaGreatDoor
namespace Go.Proofs.YtocfggfccbnbhaaGreatDoor
open Go.RowKit Go.ChangeMaps
end Go.Proofs.YtocfggfccbnbhaaGreatDoor

namespace Go.Proofs.YtocfggfccbnbhaaGreatDoor
open Go.RowKit Go.ChangeMaps
def fgm (m : M4) (n st sb : Int) : M4 := (m.1, m.2.1, sl m.2.2.1 n st sb, m.2.2.2)
def fmOk (g : Int) (nm : ByteArray) (t b nx : Int) (L : List M4) (G : List Int) (gid n st sb : Int) : Bool :=
  bxOk g nm t b nx L G && (L.any (fun m => decide (m.1 = gid)) && (flr n && stOk st sb))
def fmL (p : Bool) (L : List M4) (gid n st sb : Int) : List M4 := if p = true then L.map (fun m => if m.1 = gid then fgm m n st sb else m) else L
end Go.Proofs.YtocfggfccbnbhaaGreatDoor
namespace Go.Proofs.YtocfggfccbnbhaaGreatDoor
open Go.RowKit Go.ChangeMaps
end Go.Proofs.YtocfggfccbnbhaaGreatDoor
namespace Go.Proofs.YtocfggfccbnbhaaGreatDoor
open Go.RowKit Go.ChangeMaps
end Go.Proofs.YtocfggfccbnbhaaGreatDoor

namespace Go.Proofs.YtocfggfccbnbhaaGreatDoor
open Go.RowKit Go.ChangeMaps
theorem asc_low {G : List Int} {a : Int} (h : asc a G = true) : ∀ y ∈ G, a < y := by
  induction G generalizing a with
  | nil => intro y hy; simp at hy
  | cons x G ih =>
    simp only [asc, Bool.and_eq_true, decide_eq_true_eq] at h
    intro y hy
    rcases List.mem_cons.1 hy with rfl | hy
    · exact h.1.1
    · have := ih h.2 y hy
      omega
theorem asc_pair {G : List Int} {a : Int} (h : asc a G = true) : G.Pairwise (· < ·) := by
  induction G generalizing a with
  | nil => exact List.Pairwise.nil
  | cons x G ih =>
    simp only [asc, Bool.and_eq_true, decide_eq_true_eq] at h
    exact List.pairwise_cons.2 ⟨fun y hy => asc_low h.2 y hy, ih h.2⟩
end Go.Proofs.YtocfggfccbnbhaaGreatDoor
namespace Go.Proofs.YtocfggfccbnbhaaGreatDoor
open Go.RowKit Go.ChangeMaps
end Go.Proofs.YtocfggfccbnbhaaGreatDoor
namespace Go.Proofs.YtocfggfccbnbhaaGreatDoor
open Go.RowKit Go.ChangeMaps
end Go.Proofs.YtocfggfccbnbhaaGreatDoor
namespace Go.Proofs.YtocfggfccbnbhaaGreatDoor
open Go.RowKit Go.ChangeMaps
end Go.Proofs.YtocfggfccbnbhaaGreatDoor
namespace Go.Proofs.YtocfggfccbnbhaaGreatDoor
open Go.RowKit Go.ChangeMaps
end Go.Proofs.YtocfggfccbnbhaaGreatDoor

namespace Go.Proofs.YtocfggfccbnbhaaGreatDoor
open Go.RowKit Go.ChangeMaps
theorem LsP.snoc {W : World} {B : Nat} {v : Value} {Y : List Y9} (h : LsP W B v Y) (y : Y9) (ho : OwX W y.lo y.hi y.mv y.gv y.L y.G) (hB : B ≤ y.lo) (hv : ∀ j, v.ownBlock = some j → j < y.lo ∨ y.hi ≤ j) (hd : ∀ x ∈ Y, x.hi ≤ y.lo ∨ y.hi ≤ x.lo) : LsP W B v (Y ++ [y]) := by
  refine ⟨fun x hx => ?_, fun x hx => ?_, ?_⟩
  · rcases List.mem_append.1 hx with hx | hx
    · exact h.each x hx
    · simp only [List.mem_cons, List.not_mem_nil, or_false] at hx
      subst hx
      exact ⟨ho, hB⟩
  · rcases List.mem_append.1 hx with hx | hx
    · exact h.off x hx
    · simp only [List.mem_cons, List.not_mem_nil, or_false] at hx
      subst hx
      exact hv
  · rw [List.pairwise_append]
    refine ⟨h.apart, List.pairwise_singleton _ _, fun x hx z hz => ?_⟩
    simp only [List.mem_cons, List.not_mem_nil, or_false] at hz
    subst hz
    exact hd x hx
end Go.Proofs.YtocfggfccbnbhaaGreatDoor

namespace Go.Proofs.YtocfggfccbnbhaaGreatDoor
open Go.RowKit Go.ChangeMaps
theorem Sg.grown {W W' : World} {k ty : Nat} {t b : Int} {r : Option Nat} (h : Sg W k ty t b) (hg : W.grownBy W' r) (hk : some k ≠ r) : Sg W' k ty t b := (hg.block k h.lt hk).trans h
end Go.Proofs.YtocfggfccbnbhaaGreatDoor

namespace Go.Proofs.YtocfggfccbnbhaaGreatDoor
open Go.RowKit Go.ChangeMaps
/-- What a change comes to: what it made, or what was. -/
def pik {α : Type} (ok : Bool) (a b : α) : α := if ok = true then a else b
end Go.Proofs.YtocfggfccbnbhaaGreatDoor

namespace Go.Proofs.YtocfggfccbnbhaaGreatDoor
open Go.RowKit Go.ChangeMaps
/-! One box of a store changed. -/
theorem fidx_cases {α : Type} (p : α → Bool) (S : List α) (k : Nat) : fidx p S k < 0 ∨ ∃ i, ∃ h : i < S.length, fidx p S k = ((k + i : Nat) : Int) ∧ p S[i] = true := by
  induction S generalizing k with
  | nil => exact .inl (by simp [fidx])
  | cons x S ih =>
    rw [fidx]
    by_cases hp : p x = true
    · rw [if_pos hp]
      exact .inr ⟨0, by simp, by simp, hp⟩
    · rw [if_neg hp]
      rcases ih (k + 1) with h | ⟨i, h, e, hq⟩
      · exact .inl h
      · exact .inr ⟨i + 1, by simpa using h, by rw [e]; congr 1; omega, by simpa using hq⟩
def chB (S : List X7) (box : Int) (ok : X7 → Bool) (f : X7 → X7) : Bool × List X7 :=
  if fidx (isG box) S 0 < 0 then (false, S) else
    match S[(fidx (isG box) S 0).toNat]? with
    | none => (false, S)
    | some x => (ok x, S.set (fidx (isG box) S 0).toNat (f x))
theorem chB_no {S : List X7} {box : Int} {ok : X7 → Bool} {f : X7 → X7} (h : fidx (isG box) S 0 < 0) : chB S box ok f = (false, S) := by rw [chB, if_pos h]
theorem chB_at {S : List X7} {box : Int} {ok : X7 → Bool} {f : X7 → X7} {i : Nat} (h : fidx (isG box) S 0 = (i : Int)) (hi : i < S.length) {x : X7} (hx : S[i] = x) : chB S box ok f = (ok x, S.set i (f x)) := by
  rw [chB, if_neg (by omega), h]
  simp only [Int.toNat_natCast]
  rw [List.getElem?_eq_getElem hi, hx]
def pmK (y tm gid fl : Int) (tx : ByteArray) (x : X7) : Bool := amOk x.1 x.2.1 x.2.2.1 x.2.2.2.1 x.2.2.2.2.1 x.2.2.2.2.2.1 x.2.2.2.2.2.2 gid fl tx (tm + 1) y
def pmF (y tm gid fl : Int) (tx : ByteArray) (x : X7) : X7 := (x.1, x.2.1, x.2.2.1, x.2.2.2.1, amN (pmK y tm gid fl tx x) x.2.2.2.2.1, amL (pmK y tm gid fl tx x) x.2.2.2.2.2.1 (nwm gid x.2.2.2.2.1 fl tx (tm + 1) y), x.2.2.2.2.2.2)
def mmK (y tm gid fl : Int) (x : X7) : Bool := fmOk x.1 x.2.1 x.2.2.1 x.2.2.2.1 x.2.2.2.2.1 x.2.2.2.2.2.1 x.2.2.2.2.2.2 gid fl (tm + 1) y
def mmF (y tm gid fl : Int) (x : X7) : X7 := (x.1, x.2.1, x.2.2.1, x.2.2.2.1, x.2.2.2.2.1, fmL (mmK y tm gid fl x) x.2.2.2.2.2.1 gid fl (tm + 1) y, x.2.2.2.2.2.2)
/-! What is made is not too great. -/
def Sx1 (x : X7) : Prop := x.2.1.size ≤ 1048576 ∧ x.2.2.2.2.2.1.length ≤ 1048576 ∧ Sm x.2.2.2.2.2.1 ∧ x.2.2.2.2.2.2.length ≤ 1048576
end Go.Proofs.YtocfggfccbnbhaaGreatDoor

namespace Go.Proofs.YtocfggfccbnbhaaGreatDoor
open Go.RowKit Go.ChangeMaps
def insX (x : X7) (S : List X7) : List X7 := S.take (S.countP (fun b => decide (b.1 < x.1))) ++ x :: S.drop (S.countP (fun b => decide (b.1 < x.1)))
end Go.Proofs.YtocfggfccbnbhaaGreatDoor

namespace Go.Proofs.YtocfggfccbnbhaaGreatDoor
open Go.RowKit Go.ChangeMaps
/-! What a right store is. -/
theorem sOk_all {y tm : Int} {S : List X7} {G : List Int} (h : sOk y tm S G = true) : S.length ≤ 5 ∧ gnM 20 G = true ∧ (∀ i, i < S.length → stp7 tm G S i = true) ∧ (gids S).Nodup := by
  unfold sOk at h
  simp only [Bool.and_eq_true, decide_eq_true_eq] at h
  obtain ⟨_, _, h1, h2, h3, h4⟩ := h
  exact ⟨by omega, h2, fun i hi => List.all_eq_true.1 h3 i (List.mem_range.2 hi), h4⟩
theorem stp7_all {tm : Int} {G : List Int} {S : List X7} (h : ∀ i, i < S.length → stp7 tm G S i = true) {i : Nat} (hi : i < S.length) : bxx S[i] = true ∧ pg S i < S[i].1 ∧ fidx (isN S[i].2.1) S 0 = (i : Int) ∧ inl S[i].1 G = false ∧ tmOk tm S[i].2.2.1 S[i].2.2.2.2.2.1 = true := by
  have h1 := h i hi
  rw [stp7_at hi rfl] at h1
  simp only [Bool.and_eq_true, decide_eq_true_eq, Bool.not_eq_true'] at h1
  exact ⟨h1.1, h1.2.1, h1.2.2.1, h1.2.2.2.1, h1.2.2.2.2⟩
theorem sOk_pw {y tm : Int} {S : List X7} {G : List Int} (h : sOk y tm S G = true) : S.Pairwise (fun a b => a.1 < b.1) := by
  obtain ⟨_, _, h3, _⟩ := sOk_all h
  have hs : ∀ i (hi : i + 1 < S.length), S[i].1 < S[i + 1].1 := fun i hi => by
    have h1 := (stp7_all h3 hi).2.1
    rw [pg_succ (by omega)] at h1
    exact h1
  rw [List.pairwise_iff_getElem]
  intro i j hi hj hij
  obtain ⟨d, rfl⟩ : ∃ d, j = i + 1 + d := ⟨j - (i + 1), by omega⟩
  induction d with
  | zero => exact hs i hj
  | succ d ih =>
    have h1 := ih (by omega) (by omega)
    have h2 := hs (i + 1 + d) hj
    exact Int.lt_trans h1 h2
theorem gnM_parts {mo : Int} {G : List Int} (h : gnM mo G = true) : asc 0 G = true ∧ (G.length : Int) ≤ mo := by
  unfold gnM at h
  simpa only [Bool.and_eq_true, decide_eq_true_eq] using h
theorem sOk_gone {y tm : Int} {S : List X7} {G : List Int} (h : sOk y tm S G = true) : G.Pairwise (· < ·) ∧ G.length ≤ 20 := by
  obtain ⟨h1, h2⟩ := gnM_parts (sOk_all h).2.1
  exact ⟨asc_pair h1, by omega⟩
/-! A box of an owned store renamed. -/
end Go.Proofs.YtocfggfccbnbhaaGreatDoor

namespace Go.Proofs.YtocfggfccbnbhaaGreatDoor
open Go.RowKit Go.ChangeMaps
theorem bx_iff {g : Int} {nm : ByteArray} {t b nx : Int} {L : List M4} {G : List Int} : bxOk g nm t b nx L G = true ↔
    gok g = true ∧ nmOk nm = true ∧ stOk t b = true ∧ (1 ≤ nx ∧ nx ≤ 10000) ∧ L.length ≤ 10 ∧ gnOk G = true ∧ (∀ m ∈ L, mlOk m.1 m.2.1 m.2.2.1 m.2.2.2 = true ∧ m.2.1 < nx ∧ inl m.1 G = false) ∧ Upr L ∧ uq L = true := by
  constructor
  · intro h
    have hp := bx_parts h
    simp only [bxOk, Bool.and_eq_true, decide_eq_true_eq, bxm] at h
    obtain ⟨h1, h2, h3, h4, h5, h6, h7, h8⟩ := h
    refine ⟨h1, h2, h3, h4, by omega, h6, fun m hm => ?_, alr_upr h7, h8⟩
    obtain ⟨i, hi, rfl⟩ := List.getElem_of_mem hm
    have h9 := List.all_eq_true.1 h7 i (List.mem_range.2 hi)
    rw [stp_at hi (g := L[i].1) (u := L[i].2.1) (l := L[i].2.2.1) (t := L[i].2.2.2) rfl] at h9
    simp only [Bool.and_eq_true, decide_eq_true_eq, Bool.not_eq_true'] at h9
    exact ⟨h9.1, h9.2.1, h9.2.2.2⟩
  · rintro ⟨h1, h2, h3, h4, h5, h6, h7, h8, h9⟩
    simp only [bxOk, Bool.and_eq_true, decide_eq_true_eq, bxm]
    refine ⟨h1, h2, h3, h4, by omega, h6, alr_all (fun i hi => ?_), h9⟩
    have hm := h7 L[i] (List.getElem_mem hi)
    rw [stp_at hi (g := L[i].1) (u := L[i].2.1) (l := L[i].2.2.1) (t := L[i].2.2.2) rfl]
    simp only [Bool.and_eq_true, decide_eq_true_eq, Bool.not_eq_true']
    refine ⟨hm.1, hm.2.1, ?_, hm.2.2⟩
    cases i with
    | zero => rw [us_zero]; exact mlOk_pos hm.1
    | succ i =>
      rw [us_succ (by omega)]
      exact List.pairwise_iff_getElem.1 h8 i (i + 1) (by omega) hi (by omega)
/-- What a right box takes at most. -/
theorem bx_small {g : Int} {nm : ByteArray} {t b nx : Int} {L : List M4} {G : List Int} (h : bxOk g nm t b nx L G = true) : L.length ≤ 10 ∧ G.length ≤ 40 ∧ (∀ m ∈ L, m.2.2.1.length = 3 ∧ m.2.2.2.size ≤ 60) := by
  obtain ⟨_, _, _, _, h5, h6, h7, _⟩ := bx_iff.1 h
  simp only [gnOk, Bool.and_eq_true, decide_eq_true_eq] at h6
  refine ⟨h5, by omega, fun m hm => ?_⟩
  have h8 := (h7 m hm).1
  simp only [mlOk, Bool.and_eq_true, decide_eq_true_eq, flOk] at h8
  exact ⟨h8.2.2.1.1, by omega⟩
end Go.Proofs.YtocfggfccbnbhaaGreatDoor

namespace Go.Proofs.YtocfggfccbnbhaaGreatDoor
open Go.RowKit Go.ChangeMaps
theorem fidx_first {α : Type} {p : α → Bool} (S : List α) (i k : Nat) (hi : i < S.length) (h1 : ∀ j (hj : j < i), p (S[j]'(Nat.lt_trans hj hi)) = false) (h2 : p S[i] = true) : fidx p S k = ((k + i : Nat) : Int) := by
  induction S generalizing i k with
  | nil => simp at hi
  | cons x S ih =>
    cases i with
    | zero =>
      have h3 : p x = true := h2
      simp [fidx, h3]
    | succ i =>
      have h3 : p x = false := h1 0 (by omega)
      have h4 := ih i (k + 1) (by simpa using hi) (fun j hj => by have := h1 (j + 1) (by omega); simpa using this) (by simpa using h2)
      simp only [fidx, h3]
      rw [if_neg (by decide), h4]
      congr 1
      omega
theorem fidx_before {α : Type} {p : α → Bool} (S : List α) (i k : Nat) (h : fidx p S k = ((k + i : Nat) : Int)) : ∀ j (_ : j < i) (hl : j < S.length), p S[j] = false := by
  induction S generalizing i k with
  | nil => intro j hj hl; simp at hl
  | cons x S ih =>
    intro j hj hl
    cases hx : p x with
    | true =>
      simp only [fidx, hx, if_true] at h
      omega
    | false =>
      simp only [fidx, hx] at h
      rw [if_neg (by decide)] at h
      cases j with
      | zero => exact hx
      | succ j => exact ih (i - 1) (k + 1) (by rw [h]; congr 1; omega) j (by omega) (by simpa using hl)
theorem sOk_iff {y tm : Int} {S : List X7} {G : List Int} : sOk y tm S G = true ↔ ((1 ≤ y ∧ y ≤ 2) ∧ (0 ≤ tm ∧ tm ≤ 100000) ∧ S.length ≤ 5 ∧ gnM 20 G = true ∧ (gids S).Nodup ∧ (∀ x ∈ S, bxx x = true ∧ inl x.1 G = false ∧ tmOk tm x.2.2.1 x.2.2.2.2.2.1 = true) ∧ S.Pairwise (fun a b => a.1 < b.1) ∧ S.Pairwise (fun a b => a.2.1 ≠ b.2.1)) := by
  constructor
  · intro h
    have hpw := sOk_pw h
    obtain ⟨_, _, h3, _⟩ := sOk_all h
    unfold sOk at h
    simp only [Bool.and_eq_true, decide_eq_true_eq] at h
    obtain ⟨ha, hb, hc, hd, _, he⟩ := h
    refine ⟨ha, hb, by omega, hd, he, fun x hx => ?_, hpw, ?_⟩
    · obtain ⟨i, hi, rfl⟩ := List.getElem_of_mem hx
      have h4 := stp7_all h3 hi
      exact ⟨h4.1, h4.2.2.2.1, h4.2.2.2.2⟩
    · rw [List.pairwise_iff_getElem]
      intro i j hi hj hij e
      have h4 := (stp7_all h3 hj).2.2.1
      have h5 := fidx_before S j 0 (by rw [h4]; simp) i hij hi
      simp [isN, e] at h5
  · rintro ⟨ha, hb, hc, hd, he, hf, hg, hn⟩
    unfold sOk
    simp only [Bool.and_eq_true, decide_eq_true_eq]
    refine ⟨ha, hb, by omega, hd, List.all_eq_true.2 (fun i hi => ?_), he⟩
    have hi := List.mem_range.1 hi
    obtain ⟨h1, h2, h3⟩ := hf S[i] (List.getElem_mem hi)
    have hpg : pg S i < S[i].1 := by
      cases i with
      | zero =>
        rw [pg_zero]
        simp only [bxx, bxOk, Bool.and_eq_true] at h1
        exact gok_pos h1.1
      | succ i =>
        rw [pg_succ (by omega)]
        exact (List.pairwise_iff_getElem.1 hg) i (i + 1) (by omega) hi (by omega)
    have hfi : fidx (isN S[i].2.1) S 0 = (i : Int) := by
      rw [fidx_first S i 0 hi (fun j hj => ?_) (by simp [isN])]
      · simp
      · have := (List.pairwise_iff_getElem.1 hn) j i (by omega) hi hj
        simp [isN, this]
    unfold stp7
    rw [List.getElem?_eq_getElem hi]
    simp only [h1, hpg, hfi, h2, h3, decide_true, Bool.not_false, Bool.and_self]
end Go.Proofs.YtocfggfccbnbhaaGreatDoor

