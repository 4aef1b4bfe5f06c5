/- Whether a store is right, as the specification tells it. -/
import Derived.Test.YtanahkieondboaaDoorSapp
import Derived.Test.YtanahkieondboaaDoorStm
import Derived.Test.YtanahkieondboaaDoorSso
namespace Go.Proofs.YtanahkieondboaaDoor
open Go.RowKit Go.ChangeMaps

def bxx (x : X7) : Bool := bxOk x.1 x.2.1 x.2.2.1 x.2.2.2.1 x.2.2.2.2.1 x.2.2.2.2.2.1 x.2.2.2.2.2.2
def pg (S : List X7) (i : Nat) : Int := lst 0 ((S.take i).map (fun x => x.1))
def stp7 (tm : Int) (G : List Int) (S : List X7) (i : Nat) : Bool :=
  match S[i]? with
  | none => true
  | some x => bxx x && (decide (pg S i < x.1) && (decide (fidx (isN x.2.1) S 0 = (i : Int)) && (!inl x.1 G && tmOk tm x.2.2.1 x.2.2.2.2.2.1)))
/-- The Gids of all mails. -/
def gids (S : List X7) : List Int := S.flatMap (fun x => x.2.2.2.2.2.1.map (fun m => m.1))
def sOk (y tm : Int) (S : List X7) (G : List Int) : Bool :=
  (decide (1 ≤ y) && decide (y ≤ 2)) && ((decide (0 ≤ tm) && decide (tm ≤ 100000)) && (decide ((S.length : Int) ≤ 5) && (gnM 20 G && ((List.range S.length).all (stp7 tm G S) && decide (gids S).Nodup))))
theorem pg_zero (S : List X7) : pg S 0 = 0 := rfl
theorem pg_succ {S : List X7} {i : Nat} (h : i < S.length) : pg S (i + 1) = S[i].1 := by
  unfold pg
  rw [List.map_take]
  have := lst_take (G := S.map (fun x => x.1)) (i := i) (by simpa using h)
  rw [this, List.getElem_map]
theorem stp7_at {tm : Int} {G : List Int} {S : List X7} {i : Nat} (h : i < S.length) {x : X7} (hx : S[i] = x) : stp7 tm G S i = (bxx x && (decide (pg S i < x.1) && (decide (fidx (isN x.2.1) S 0 = (i : Int)) && (!inl x.1 G && tmOk tm x.2.2.1 x.2.2.2.2.2.1)))) := by
  unfold stp7
  rw [List.getElem?_eq_getElem h, hx]
theorem gids_take {S : List X7} {i : Nat} (h : i < S.length) : gids (S.take (i + 1)) = gids (S.take i) ++ S[i].2.2.2.2.2.1.map (fun m => m.1) := by
  unfold gids
  rw [List.take_succ_eq_append_getElem h, List.flatMap_append]
  simp
theorem gids_small {tm : Int} {G : List Int} {S : List X7} : ∀ {i : Nat}, (∀ j, j < i → j < S.length → stp7 tm G S j = true) → i ≤ S.length → (gids (S.take i)).length ≤ 10 * i := by
  intro i
  induction i with
  | zero => intro _ _; simp [gids]
  | succ i ih =>
    intro h hi
    have h1 := ih (fun j hj hl => h j (by omega) hl) (by omega)
    rw [gids_take (by omega), List.length_append, List.length_map]
    have h2 := h i (by omega) (by omega)
    rw [stp7_at (by omega) rfl] at h2
    simp only [Bool.and_eq_true] at h2
    have h3 := (bx_parts (show bxOk _ _ _ _ _ _ _ = true from h2.1)).1
    omega
theorem map_take_snoc {L : List M4} {k : Nat} (h : k < L.length) : (L.take k).map (fun m => m.1) ++ [L[k].1] = (L.take (k + 1)).map (fun m => m.1) := by
  rw [List.take_succ_eq_append_getElem h, List.map_append]
  rfl
theorem inl_iff {x : Int} {G : List Int} : inl x G = true ↔ x ∈ G := by
  induction G with
  | nil => simp [inl]
  | cons a G ih => simp only [inl, Bool.or_eq_true, decide_eq_true_eq, ih, List.mem_cons]; constructor <;> (rintro (h | h); exact .inl h.symm; exact .inr h)
theorem nodup_snoc {P : List Int} {x : Int} (h : P.Nodup) (hx : inl x P = false) : (P ++ [x]).Nodup := by
  rw [List.nodup_append]
  refine ⟨h, by simp, fun a ha b hb e => ?_⟩
  simp only [List.mem_cons, List.not_mem_nil, or_false] at hb
  subst hb
  subst e
  rw [inl_iff.2 ha] at hx
  cases hx
theorem gids_dup {S : List X7} {i k : Nat} {L : List M4} (h : i < S.length) (hk : k < L.length) (hL : S[i].2.2.2.2.2.1 = L) (hx : inl L[k].1 (gids (S.take i) ++ (L.take k).map (fun m => m.1)) = true) : decide (gids S).Nodup = false := by
  simp only [decide_eq_false_iff_not]
  intro hn
  have e1 : gids S = gids (S.take (i + 1)) ++ gids (S.drop (i + 1)) := by
    unfold gids
    rw [← List.flatMap_append, List.take_append_drop]
  have e2 : L.map (fun m => m.1) = (L.take k).map (fun m => m.1) ++ ([L[k].1] ++ (L.drop (k + 1)).map (fun m => m.1)) := by
    conv => lhs; rw [← List.take_append_drop k L, List.drop_eq_getElem_cons hk]
    rw [List.map_append, List.map_cons]
    rfl
  rw [e1, gids_take h, hL, e2] at hn
  rw [← List.append_assoc, List.append_assoc, List.nodup_append] at hn
  exact hn.2.2 _ (inl_iff.1 hx) _ (by simp) rfl
theorem cell_one_i (w : World) (n : Int) (e : Nat) : ∀ j u, ([.int .i64 n] : List Value)[j]? = some u → (w.alloc (.cells #[.int .i64 n] e)).cell? ((⟨w.heap.size, 0, none⟩ : Addr).add j) = some u := by
  intro j u hj
  match j, hj with
  | 0, hj =>
    simp only [List.getElem?_cons_zero, Option.some.injEq] at hj
    subst hj
    exact cell_of_row _ w.heap.size 0 _ _ _ (heap_alloc_new w _)
  | j + 1, hj => simp at hj
theorem wpList_append_ik (w : World) {ops : Array Oper} {rest : List Oper} {o : Oper} {a : Act} {Q : Exit → Act → World → Prop} (hgd : o.guard = none) (s x : Operand)
    (ho : o.op = .call { callee := .builtin .append, args := #[s, x], argTypes := #[25, 25] })
    (base : Nat) (v : Value) (bs : List Int) (hs : a.eval s = v) (hown : OwI w base v bs) (n : Int)
    (hx : a.eval x = .slice (some ⟨w.heap.size, 0, none⟩) 1 1) (hlen : bs.length ≤ 1048576) (hbase : base ≤ w.heap.size)
    (h : ∀ v' w', OwI w' base v' (bs ++ [n]) → (w.alloc (.cells #[.int .i64 n] 3)).grownBy w' v.ownBlock → (∀ j, v'.ownBlock = some j → v.ownBlock = some j ∨ w.heap.size < j) → wpList Tryd.prog ops Q rest (a.put o.dst v') w') :
    wpList Tryd.prog ops Q (o :: rest) a (w.alloc (.cells #[.int .i64 n] 3)) := by
  obtain ⟨i0, hi, hz0, hz1, hz2⟩ := info_parts3 info_int
  refine wpList_append_own_at _ hgd s x 25 ho base 3 i0 (.int .i64 0) 1 8 Tryd.underlying25 hi hz0 hz1 hz2 rfl (by decide) v _ _ hs (hown.alloc _) ⟨w.heap.size, 0, none⟩ 1 1 [.int .i64 n] hx rfl (cell_one_i _ _ _) (by intro u hu; simp at hu; subst hu; rfl) (by unfold maxLen; omega) (by omega) (by simp; omega) ?_
  intro v' w' hown' hg _ h5
  exact h v' w' (by simpa [OwI] using hown') hg (fun j hj => by
    rcases h5 with h5 | h5
    · exact .inl (by rw [← h5]; exact hj)
    · rw [h5] at hj; simp at hj; exact .inr (by omega))

end Go.Proofs.YtanahkieondboaaDoor
