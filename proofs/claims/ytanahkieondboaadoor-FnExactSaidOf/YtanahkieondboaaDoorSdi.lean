/- What is said of a store, as the program says it. -/
import Derived.Test.YtanahkieondboaaDoorSdm
import Derived.Test.YtanahkieondboaaDoorBld
import Derived.Test.YtanahkieondboaaDoorBstr
namespace Go.Proofs.YtanahkieondboaaDoor
open Go.RowKit Go.ChangeMaps

theorem nmb_nat (n : Nat) : nmb n = ⟨(dg n).toArray⟩ := by unfold nmb; rw [if_neg (by omega)]; rfl
set_option maxHeartbeats 800000 in
set_option maxRecDepth 100000 in
theorem implNum_any (n : Int) (w : World) (h : n ≤ 9223372036854775807) (htab : Lib.TabIs Tryd.prog w "internal/strconv.uint64pow10" .u64 Lib.pow10Tab) :
    Calls Tryd.prog 22 #[.int .i64 n] w fun e w' => e = .returned (.string (nmb n)) ∧ Below w.heap.size w w' := by
  obtain ⟨m, hm⟩ : ∃ m : Nat, (m : Int) = max 0 n := ⟨(max 0 n).toNat, by omega⟩
  have hE : nmb n = ⟨(dg m).toArray⟩ := by
    by_cases hn : n < 0
    · rw [show m = 0 by omega, dg_small 0 (by decide)]; unfold nmb; rw [if_pos hn]; rfl
    · rw [show n = (m : Int) by omega, nmb_nat]
  have hD := implDecimal_any m w (by omega) (by omega) htab
  rw [itoa_pos] at hD
  have HD := hid hD
  have HM := hid hm
  rw [hE]
  clear hD hE htab hm
  go_enter Tryd.func22, Tryd.ntmps22
  go_wp2_with fail
  rw [← HM.out]
  refine HD.out.mono ?_; rintro e w1 ⟨rfl, hb⟩
  go_wp2
  go_ret
  exact ⟨rfl, hb⟩
theorem hexI_any (s : ByteArray) (w : World) (h : s.size ≤ 1048576) : ∃ b : Bool, Calls Tryd.prog 23 #[.string s] w fun e w' => e = .returned (.tuple #[.string (hx9 s), .bool b]) ∧ Below w.heap.size w w' := by
  by_cases hs : s.size ≤ 20000
  · refine ⟨true, ?_⟩
    have e : hx9 s = ⟨(hexOf s.data.toList).toArray⟩ := by unfold hx9; rw [if_pos hs]
    rw [e]
    exact implHex_yes s w hs
  · refine ⟨false, ?_⟩
    have e : hx9 s = ⟨#[]⟩ := by unfold hx9; rw [if_neg hs]
    rw [e]
    refine (implHex_no s w h hs).mono ?_
    rintro e w' ⟨rfl, rfl⟩
    exact ⟨rfl, bre _⟩

/-- The builder of block b holds the text t. -/
def Bu (B b : Nat) (t : ByteArray) (w : World) : Prop := Lib.IsBuilderF 55 5 B b (Lib.strCells t) w
theorem ownF_later {W W' : World} {B e n : Nat} {v : Value} {xs : List Value} (h : W.ownsRowF B e 1 v n xs) (hb : Below W.heap.size W W') : W'.ownsRowF B e 1 v n xs := by
  refine ⟨h.1, h.2.imp id ?_⟩
  rintro ⟨g, cap, cur, fz, h1, h2, h3, h4⟩
  exact ⟨g, cap, cur, fz, h1, h2, (hb.block g (Array.getElem?_eq_some_iff.1 h3).1).trans h3, h4⟩
theorem atF_later {W W' : World} {T e B b : Nat} {p : Value} {xs : List Value} (h : Lib.BuilderAtF T e B b p xs W) (hb : Below W.heap.size W W') : Lib.BuilderAtF T e B b p xs W' := by
  obtain ⟨h1, v, h2, h3, h4⟩ := h
  exact ⟨h1, v, (hb.block b (Array.getElem?_eq_some_iff.1 h2).1).trans h2, ownF_later h3 hb, h4⟩
theorem Bu.later {W W' : World} {B b : Nat} {t : ByteArray} (h : Bu B b t W) (hb : Below W.heap.size W W') : Bu B b t W' :=
  Or.imp (fun x => atF_later x hb) (fun x => atF_later x hb) h
theorem strCells_app (t s : ByteArray) : Lib.strCells (t ++ s) = Lib.strCells t ++ Lib.strCells s := by
  unfold Lib.strCells
  rw [ByteArray.data_append, Array.toList_append, List.map_append]
theorem write_bu (B b : Nat) (t s : ByteArray) (w : World) (h : Bu B b t w) (hlen : t.size + s.size ≤ 140737488355328) (hBw : B ≤ w.heap.size) :
    Calls Tryd.prog 21 #[.pointer (some ⟨b, 0, none⟩), .string s] w fun e w' => e = .returned (.tuple #[.int .i64 s.size, .nilIface]) ∧ Bu B b (t ++ s) w' ∧ Below B w w' ∧ Lib.OthersKept 5 (some b) w w' := by
  refine (write_k B b (Lib.strCells t) s w h (by rw [Lib.strCells_length]; exact hlen) hBw).mono ?_
  rintro e w' ⟨rfl, h1, h2, h3⟩
  exact ⟨rfl, Or.inr (by rw [strCells_app]; exact h1), h2, h3⟩
theorem Bx.kept {W W' : World} {k c : Nat} {g : Int} {nm : ByteArray} {t b nx : Int} {ms gs : Value} (h : Bx W k 43 g nm t b nx ms gs) (hk : Lib.OthersKept 5 (some c) W W') (hne : k ≠ c) : Bx W' k 43 g nm t b nx ms gs :=
  hk k _ h (fun e => hne (Option.some.inj e)) (fun _ _ e => by injection e with _ e2; exact absurd e2 (by decide))
theorem Mg.kept {W W' : World} {k c : Nat} {g u : Int} {f : Value} {t : ByteArray} (h : Mg W k 46 g u f t) (hk : Lib.OthersKept 5 (some c) W W') (hne : k ≠ c) : Mg W' k 46 g u f t :=
  hk k _ h (fun e => hne (Option.some.inj e)) (fun _ _ e => by injection e with _ e2; exact absurd e2 (by decide))

/-- How many mails there are. -/
def tml : List X7 → Nat
  | [] => 0
  | x :: S => x.2.2.2.2.2.1.length + tml S
theorem tml_app (S T : List X7) : tml (S ++ T) = tml S + tml T := by
  induction S with
  | nil => simp [tml]
  | cons x S ih => simp only [List.cons_append, tml, ih]; omega
theorem tml_take (S : List X7) (i : Nat) (h : i < S.length) : tml (S.take (i + 1)) = tml (S.take i) + S[i].2.2.2.2.2.1.length := by
  rw [List.take_succ_eq_append_getElem h, tml_app]
  rfl
theorem tml_le (S : List X7) (i : Nat) : tml (S.take i) ≤ tml S := by
  have h := tml_app (S.take i) (S.drop i)
  rw [List.take_append_drop] at h
  omega
theorem tml_sz (S : List X7) : tml S ≤ szB S := by
  unfold szB
  induction S with
  | nil => simp [tml]
  | cons x S ih =>
    have e : toX (x :: S) = szX x + toX S := rfl
    have e2 : tml (x :: S) = x.2.2.2.2.2.1.length + tml S := rfl
    have e3 : x.2.2.2.2.2.1.length ≤ szX x := by unfold szX szL; omega
    rw [e, e2, List.length_cons]
    omega

/-- The flags of each mail lie in a list that has room for them. -/
def Bc (W : World) (ba : Option Addr) (S : List X7) : Prop := ∀ i (h : i < S.length) k o ma mn mc, ba = some ⟨k, o, none⟩ → W.cell? ⟨k, o + i * 7 + 5, none⟩ = some (.slice ma mn mc) → ∀ j, j < S[i].2.2.2.2.2.1.length → ∀ k2 o2 fa n fc, ma = some ⟨k2, o2, none⟩ → W.cell? ⟨k2, o2 + j * 4 + 2, none⟩ = some (.slice fa n fc) → n ≤ fc
theorem Bc.same {W W' : World} {ba : Option Addr} {S : List X7} {lo hi : Nat} (h : Bc W ba S) (hb : Bs lo hi W ba S) (hk : ∀ k, k < W.heap.size → W'.heap[k]? = W.heap[k]?) : Bc W' ba S := by
  intro i hi k o ma mn mc e1 c j hj k2 o2 fa n fc e2 d
  obtain ⟨k1, o1, ma1, mc1, ga1, gc1, f1, f2, f3, f4, -⟩ := hb.at hi
  rw [e1] at f1
  simp only [Option.some.injEq, Addr.mk.injEq, and_true] at f1
  obtain ⟨rfl, rfl⟩ := f1
  rw [cell_same (p := ⟨k, o + i * 7 + 5, none⟩) (hk k f2)] at c
  have f5 := f3.2.2.2.2.2.1
  rw [c] at f5
  simp only [Option.some.injEq, Value.slice.injEq] at f5
  obtain ⟨rfl, rfl, rfl⟩ := f5
  obtain ⟨k3, o3, fa3, fc3, g1, g2, -⟩ := f4.at hj
  rw [e2] at g1
  simp only [Option.some.injEq, Addr.mk.injEq, and_true] at g1
  obtain ⟨rfl, rfl⟩ := g1
  rw [cell_same (p := ⟨k2, o2 + j * 4 + 2, none⟩) (hk k2 g2)] at d
  exact h i hi k o _ _ _ e1 c j hj k2 o2 fa n fc e2 d
end Go.Proofs.YtanahkieondboaaDoor
