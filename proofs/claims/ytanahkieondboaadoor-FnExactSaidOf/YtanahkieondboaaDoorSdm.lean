/- What is said of a store, as the specification says it. -/
import Derived.Test.YtanahkieondboaaDoorSsz
import Derived.Test.YtanahkieondboaaDoorHexF
import Derived.Test.YtanahkieondboaaDoorTkk
namespace Go.Proofs.YtanahkieondboaaDoor
open Go.RowKit Go.ChangeMaps

structure Tg (W : World) (lo hi : Nat) (ba : Option Addr) (bn bc : Nat) (ga : Option Addr) (gn gc : Nat) (S : List X7) (G : List Int) : Prop where
  len : S.length = bn
  most : bn ≤ 1048576
  sb : Sb S
  boxes : Bs lo hi W ba S
  b0 : ba = none → bc = 0
  glen : G.length = gn
  gmost : gn ≤ 1048576
  gone : Is lo hi W ga G
  g0 : ga = none → gc = 0
section
variable {W W' : World} {lo hi : Nat} {ba : Option Addr} {bn bc : Nat} {ga : Option Addr} {gn gc : Nat} {S : List X7} {G : List Int}
theorem Tg.same (h : Tg W lo hi ba bn bc ga gn gc S G) (hs : hi ≤ W'.heap.size) (hk : ∀ k, lo ≤ k → k < hi → W'.heap[k]? = W.heap[k]?) : Tg W' lo hi ba bn bc ga gn gc S G :=
  ⟨h.len, h.most, h.sb, h.boxes.same hs hk, h.b0, h.glen, h.gmost, h.gone.same hs hk, h.g0⟩
theorem Tg.later (h : Tg W lo hi ba bn bc ga gn gc S G) (hb : Below W.heap.size W W') : Tg W' lo hi ba bn bc ga gn gc S G :=
  h.same (Nat.le_trans h.boxes.1 hb.size) (fun k _ hk => hb.block k (Nat.lt_of_lt_of_le hk h.boxes.1))
end

/-- A number as it is told; below 0 as 0. -/
def nmb (n : Int) : ByteArray := if n < 0 then ⟨#[48]⟩ else ⟨(dg n.toNat).toArray⟩
theorem nmb_size (n : Int) (h : n ≤ 9223372036854775807) : (nmb n).size ≤ 19 := by
  unfold nmb
  split
  · decide
  · have h1 := dg_len 18 n.toNat (by omega)
    show (dg n.toNat).toArray.size ≤ 19
    simpa using h1
set_option maxHeartbeats 800000 in
set_option maxRecDepth 100000 in
theorem l09Num_any (n : Int) (w : World) (h : n ≤ 9223372036854775807) :
    Calls Tryd.prog 16 #[.int .i64 n] w fun e w' => e = .returned (.string (nmb n)) ∧ Below w.heap.size w w' := by
  by_cases hn : n < 0
  · have hE : nmb n = ⟨#[48]⟩ := by unfold nmb; rw [if_pos hn]
    rw [hE]
    go_enter Tryd.func16, Tryd.ntmps16
    go_wp2
    go_ret
    exact ⟨rfl, bre _⟩
  · obtain ⟨m, rfl⟩ : ∃ m : Nat, n = (m : Int) := ⟨n.toNat, by omega⟩
    have hE : nmb m = ⟨(dg m).toArray⟩ := by unfold nmb; rw [if_neg hn]; rfl
    have hD := hid (decimal_pos m w (by omega))
    rw [hE]
    go_enter Tryd.func16, Tryd.ntmps16
    go_wp2_with fail
    refine hD.out.mono ?_; rintro e w1 ⟨rfl, hb⟩
    go_wp2
    go_ret
    exact ⟨rfl, hb⟩
/-- A text as it is told. -/
def hx9 (s : ByteArray) : ByteArray := if s.size ≤ 20000 then ⟨(hexOf s.data.toList).toArray⟩ else ⟨#[]⟩
theorem hx9_size (s : ByteArray) : (hx9 s).size ≤ 40000 := by
  unfold hx9
  split
  · rename_i h
    show (hexOf s.data.toList).toArray.size ≤ 40000
    have h1 := hexOf_len s.data.toList
    have h2 : s.data.toList.length = s.size := Array.length_toList
    rw [List.size_toArray, h1, h2]
    omega
  · decide
theorem hex_any (s : ByteArray) (w : World) (h : s.size ≤ 1048576) : ∃ b : Bool, Calls Tryd.prog 17 #[.string s] w fun e w' => e = .returned (.tuple #[.string (hx9 s), .bool b]) ∧ Below w.heap.size w w' := by
  by_cases hs : s.size ≤ 20000
  · refine ⟨true, ?_⟩
    have e : hx9 s = ⟨(hexOf s.data.toList).toArray⟩ := by unfold hx9; rw [if_pos hs]
    rw [e]
    exact specHex_yes s w hs
  · refine ⟨false, ?_⟩
    have e : hx9 s = ⟨#[]⟩ := by unfold hx9; rw [if_neg hs]
    rw [e]
    refine (specHex_no s w h hs).mono ?_
    rintro e w' ⟨rfl, rfl⟩
    exact ⟨rfl, bre _⟩
/-- The figures of flags. -/
def fdg (l : List R3) : ByteArray := ⟨(dg (fof l (min l.length 3))).toArray⟩
theorem fof_small (l : List R3) : fof l (min l.length 3) ≤ 7 := by
  have h1 := fof_lt l (min l.length 3)
  have h2 : 2 ^ min l.length 3 ≤ 2 ^ 3 := Nat.pow_le_pow_right (by decide) (by omega)
  omega
theorem fdg_size (l : List R3) : (fdg l).size ≤ 19 := by
  have h1 := dg_len 18 (fof l (min l.length 3)) (by have := fof_small l; omega)
  show (dg (fof l (min l.length 3))).toArray.size ≤ 19
  simpa using h1
def sdm (t : ByteArray) (m : M4) : ByteArray := ((((((t ++ ⟨#[32]⟩) ++ nmb m.2.1) ++ ⟨#[32]⟩) ++ fdg m.2.2.1) ++ ⟨#[32]⟩) ++ hx9 m.2.2.2) ++ ⟨#[10]⟩
def sdh (t : ByteArray) (x : X7) : ByteArray := (((t ++ x.2.1) ++ ⟨#[32]⟩) ++ nmb x.2.2.2.2.1) ++ ⟨#[10]⟩
def sdb (t : ByteArray) (x : X7) : ByteArray := x.2.2.2.2.2.1.foldl sdm (sdh t x)
def sdo (S : List X7) : ByteArray := S.foldl sdb ⟨#[]⟩
theorem sdm_size (t : ByteArray) (m : M4) (h : m.2.1 ≤ 9223372036854775807) : (sdm t m).size ≤ t.size + 40100 := by
  have h1 := nmb_size m.2.1 h
  have h2 := fdg_size m.2.2.1
  have h3 := hx9_size m.2.2.2
  have e1 : (⟨#[32]⟩ : ByteArray).size = 1 := rfl
  have e2 : (⟨#[10]⟩ : ByteArray).size = 1 := rfl
  unfold sdm
  simp only [ByteArray.size_append]
  omega
theorem sdh_size (t : ByteArray) (x : X7) (h : x.2.2.2.2.1 ≤ 9223372036854775807) : (sdh t x).size ≤ t.size + x.2.1.size + 40 := by
  have h1 := nmb_size x.2.2.2.2.1 h
  have e1 : (⟨#[32]⟩ : ByteArray).size = 1 := rfl
  have e2 : (⟨#[10]⟩ : ByteArray).size = 1 := rfl
  unfold sdh
  simp only [ByteArray.size_append]
  omega
theorem sdm_take (t : ByteArray) (L : List M4) (k : Nat) (h : k < L.length) : (L.take (k + 1)).foldl sdm t = sdm ((L.take k).foldl sdm t) L[k] := by
  rw [List.take_succ_eq_append_getElem h, List.foldl_append]
  rfl
theorem sdb_take (S : List X7) (i : Nat) (h : i < S.length) : sdo (S.take (i + 1)) = sdb (sdo (S.take i)) S[i] := by
  unfold sdo
  rw [List.take_succ_eq_append_getElem h, List.foldl_append]
  rfl
end Go.Proofs.YtanahkieondboaaDoor
