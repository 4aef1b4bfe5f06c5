/- Rows of texts that a call owns: appending, comparing, marking, and asking for the marks. -/
import Derived.Test.YtpncaomghmeneaiDoorDec
import Derived.BigQuiet
import Derived.Deep.QuietTactic
import Derived.Deep.RegionHeld3
namespace Go.Proofs.YtpncaomghmeneaiDoor
open Go.RowKit

theorem Tryd.info9 : (Tryd.prog.info? 9).map (fun i => (i.zero, i.size, i.bytes)) = some (some (.string ⟨#[]⟩), 1, 16) := by kernel_rfl

/-- A text as a value. -/
def sv (l : List UInt8) : Value := .string ⟨l.toArray⟩

/-- One text appended to a row of texts that the call owns: the text lies in a block of its own, laid just ahead. -/
theorem wpList_append_str {P : Program} (w : World) {ops : Array Oper} {rest : List Oper} {o : Oper} {a : Act} {Q : Exit → Act → World → Prop} (hgd : o.guard = none) (s x : Operand) (t : TypeId)
    (ho : o.op = .call { callee := .builtin .append, args := #[s, x], argTypes := #[t, t] })
    (base : Nat) (e : TypeId) (hinfo : (P.info? e).map (fun i => (i.zero, i.size, i.bytes)) = some (some (.string ⟨#[]⟩), 1, 16)) (ht : P.underlying t = some (.slice e))
    (v : Value) (xs : List (List UInt8)) (hs : a.eval s = v) (hown : w.ownsRow base e 1 v xs.length (xs.map sv)) (n : ByteArray) (b : List UInt8) (hb : n = ⟨b.toArray⟩)
    (hx : a.eval x = .slice (some ⟨w.heap.size, 0, none⟩) 1 1) (hlen : xs.length ≤ 100000) (hbase : base ≤ w.heap.size)
    (h : ∀ v' w', w'.ownsRow base e 1 v' (xs ++ [b]).length ((xs ++ [b]).map sv) → Below base w w' → wpList P ops Q rest (a.put o.dst v') w') :
    wpList P ops Q (o :: rest) a (w.alloc (.cells #[.string n] e)) := by
  obtain ⟨i0, hi, hz0, hz1, hz2⟩ := info_parts hinfo
  subst hb
  refine wpList_append_own _ hgd s x t ho base e i0 (.string ⟨#[]⟩) 1 16 ht hi hz0 hz1 hz2 rfl (by decide) v _ _ hs (hown.alloc _) ⟨w.heap.size, 0, none⟩ 1 1 [sv b] hx rfl (cell_one_new _ _ _) (by intro u hu; simp at hu; subst hu; rfl) (by unfold maxLen; omega) (by omega) (by simp; omega) ?_
  intro v' w' hown' hg _
  refine h v' w' (by simpa using hown') (((Below.refl base w).alloc hbase _).grown hg (by simp; omega) (fun k hk => (hown.lt k hk).1))

set_option maxHeartbeats 400000 in
set_option maxRecDepth 100000 in
/-- Two rows of the same texts are told alike. -/
theorem eqS_any (ao bo : Option Addr) (n ca cb ga gb : Nat) (xs : List (List UInt8)) (w : World) (hn : xs.length = n) (hnm : n ≤ 100000)
    (ha : 0 < n → ao = some ⟨ga, 0, none⟩) (hb : 0 < n → bo = some ⟨gb, 0, none⟩)
    (hca : ∀ i (h : i < xs.length), w.cell? ⟨ga, i, none⟩ = some (sv xs[i])) (hcb : ∀ i (h : i < xs.length), w.cell? ⟨gb, i, none⟩ = some (sv xs[i])) :
    Calls Tryd.prog 9 #[.slice ao n ca, .slice bo n cb] w fun e w' => e = .returned (.bool true) ∧ ∃ k, w' = w.drewN k := by
  have hnn : ((n : Int) != (n : Int)) = false := by simp
  have HA := hide ha
  have HB := hide hb
  have HCA := hide hca
  have HCB := hide hcb
  have HN := hide hn
  clear ha hb hca hcb hn
  go_enter Tryd.func9, Tryd.ntmps9
  go_wp2
  go_loopw [5] (fun iv wr => ∃ i k : Nat, i ≤ n ∧ iv = .int .i64 (i : Int) ∧ wr = w.drewN k) (fun iv _ => n - (intOf iv).toNat)
  case atStart => exact ⟨0, 0, Nat.zero_le _, rfl, rfl⟩
  case round =>
    obtain ⟨i, k, hi, rfl, rfl⟩ := hrel
    clear hnn
    by_cases hlt : i < n
    · obtain rfl := unhide HA (by omega)
      obtain rfl := unhide HB (by omega)
      have hx : i < xs.length := by rw [unhide HN]; exact hlt
      obtain ⟨z, hz⟩ : ∃ z, z = (⟨xs[i].toArray⟩ : ByteArray) := ⟨_, rfl⟩
      have c1 : w.cell? ⟨ga, i, none⟩ = some (.string z) := by rw [unhide HCA i hx, hz]; rfl
      have c2 : w.cell? ⟨gb, i, none⟩ = some (.string z) := by rw [unhide HCB i hx, hz]; rfl
      have hI : (0 : Int) ≤ (i : Int) ∧ (i : Int) < (n : Int) := by omega
      have hzz : (!z.toList == z.toList) = false := by simp
      clear hz
      go_wp2_with fail
      go_quiet (fail)
      go_wp2
      go_roundw
      case rel => exact ⟨i + 1, _, by omega, by go_num, rfl⟩
      case measure => simp [intOf]; omega
    · go_wp2
      go_ret
      exact ⟨rfl, k, rfl⟩

/-- What is owned stays owned while nothing that was there is changed. -/
theorem own_later {w w' : World} {B e size n : Nat} {v : Value} {xs : List Value} (h : w.ownsRow B e size v n xs) (hb : Below w.heap.size w w') : w'.ownsRow B e size v n xs :=
  h.kept (row := none) ⟨hb.os, hb.tape, hb.output, hb.size, fun k hk _ => hb.block k hk⟩ (by cases v.ownBlock <;> simp)

theorem own_base {w : World} {B B' e size n : Nat} {v : Value} {xs : List Value} (h : w.ownsRow B' e size v n xs) (hB : B ≤ B') : w.ownsRow B e size v n xs :=
  ⟨h.1, h.2.imp id (fun ⟨g, cap, cur, a, b, c⟩ => ⟨g, cap, cur, a, Nat.le_trans hB b, c⟩)⟩

/-- The mark of number k. -/
def mk (k : Nat) : List UInt8 := 109 :: dg k

set_option maxHeartbeats 400000 in
theorem markText_any (k : Nat) (w : World) (hk : 0 < k) (hk2 : k ≤ 1000000) :
    Calls Tryd.prog 17 #[.int .i64 k] w fun e w' => e = .returned (sv (mk k)) ∧ Below w.heap.size w w' := by
  have hl := dg_len 7 k (by omega)
  have hk0 : k ≠ 0 := by omega
  go_enter Tryd.func17, Tryd.ntmps17
  go_wp2
  go_loopw [0, 3] (fun nv tv wr => ∃ (m : Nat) (t : List UInt8), nv = .int .i64 (m : Int) ∧ tv = .string ⟨t.toArray⟩ ∧ m ≤ k ∧ dgz m ++ t = dg k ∧ Below w.heap.size w wr) (fun nv _ _ => (intOf nv).toNat)
  case atStart => exact ⟨k, [], rfl, rfl, Nat.le_refl _, by rw [dgz_pos k hk0]; simp, Below.refl _ _⟩
  case round =>
    obtain ⟨m, t, rfl, rfl, hm, ht, hb⟩ := hrel
    have hsz := hb.size
    have htl : t.length ≤ 8 := by have := congrArg List.length ht; simp at this; omega
    have HT := hide ht
    clear ht hl hk0
    by_cases hz : 0 < m
    · obtain ⟨d, hd⟩ : ∃ d : Nat, m % 10 = d := ⟨_, rfl⟩
      have hdi : (m : Int) % 10 = (d : Int) := by omega
      have hdb : d < 10 := by omega
      have HD := hide hd
      obtain ⟨b, hbb⟩ : ∃ b, b = UInt8.ofNat (48 + d) := ⟨_, rfl⟩
      have hbi : (48 : Int) + (d : Int) = (b.toNat : Int) := by rw [hbb, u8_48 d hdb]
      have HBB := hide hbb
      have hone := run_one b wr
      clear hd hbb
      go_wp2
      go_roundw
      case rel => exact ⟨m / 10, b :: t, by go_num, by rw [ba_cons], by omega, by rw [← unhide HT, dgz_step m (by omega), unhide HD, ← unhide HBB]; simp, hb.alloc hsz _⟩
      case measure => simp [intOf]; omega
    · have HZ : Hid (m = 0) := by show m = 0; omega
      go_wp2
      go_ret
      exact ⟨ret_str (by rw [ba_cons, mk, ← unhide HT, unhide HZ]; rfl), hb⟩

/-- The marks from k on, n of them. -/
def marks (k n : Nat) : List (List UInt8) := (List.range n).map fun i => mk (k + i)
theorem marks_len (k n : Nat) : (marks k n).length = n := by simp [marks]
theorem marks_at (k n i : Nat) (h : i < n) : (marks k n)[i]? = some (mk (k + i)) := by simp [marks, h]

set_option maxHeartbeats 400000 in
set_option maxRecDepth 100000 in
theorem markS_any (B g n cap k : Nat) (xs : List Value) (w : World) (hown : w.ownsRow B 9 1 (.slice (some ⟨g, 0, none⟩) n cap) n xs) (hk : 0 < k) (hkn : k + n ≤ 1000000) (hB : B ≤ g) :
    Calls Tryd.prog 10 #[.slice (some ⟨g, 0, none⟩) n cap, .int .i64 k] w fun e w' => e = .returned (.int .i64 (k + n : Nat)) ∧ w'.ownsRow B 9 1 (.slice (some ⟨g, 0, none⟩) n cap) n ((marks k n).map sv) ∧ Below B w w' := by
  have hgl := (hown.lt g rfl).2
  have HO := hide hown
  clear hown
  go_enter Tryd.func10, Tryd.ntmps10
  go_wp2
  go_loopw [1, 5] (fun kv iv wr => ∃ (i : Nat) (ys : List Value), i ≤ n ∧ kv = .int .i64 ((k + i : Nat) : Int) ∧ iv = .int .i64 (i : Int) ∧ wr.ownsRow B 9 1 (.slice (some ⟨g, 0, none⟩) n cap) n ys ∧ (∀ j, j < i → ys[j]? = some (sv (mk (k + j)))) ∧ Below B w wr) (fun _ iv _ => n - (intOf iv).toNat)
  case atStart => exact ⟨0, xs, Nat.zero_le _, rfl, rfl, unhide HO, by intro j hj; omega, Below.refl _ _⟩
  case round =>
    obtain ⟨i, ys, hi, rfl, rfl, hown, hys, hb⟩ := hrel
    have hyl : ys.length = n := by have := hown.1; simpa using this
    have HY := hide hys
    have HYL := hide hyl
    clear hys hyl
    have hsz := hb.size
    by_cases hlt : i < n
    · have hgr := (hown.lt g rfl).2
      have HOW := hide hown
      clear hown
      go_wp2_with fail
      refine (markText_any (k + i) _ (by omega) (by omega)).mono ?_; rintro e w1 ⟨rfl, hb1⟩
      have hown1 := own_later (unhide HOW) hb1
      have hil : i < ys.length := by rw [unhide HYL]; exact hlt
      obtain ⟨y, hy⟩ : ∃ y, ys[i] = y := ⟨_, rfl⟩
      have hc : w1.cell? ⟨g, i, none⟩ = some y := by rw [hown1.cellAt i (by omega), List.getElem?_eq_getElem hil, hy]
      have hf := hown1.frozenAt i
      have hst := hown1.stored i (sv (mk (k + i)))
      have hset : ∀ j, j < i + 1 → (ys.set i (sv (mk (k + i))))[j]? = some (sv (mk (k + j))) := by
        intro j hj
        by_cases hji : j = i
        · subst hji; rw [List.getElem?_set_self hil]
        · rw [List.getElem?_set_ne (Ne.symm hji)]; exact unhide HY j (by omega)
      have HST := hide hst
      have HSET := hide hset
      have HB1 := hide hb1
      clear hy hst hset hown1 hb1
      obtain ⟨u, hu⟩ : ∃ u : ByteArray, (⟨(mk (k + i)).toArray⟩ : ByteArray) = u := ⟨_, rfl⟩
      have e1 : sv (mk (k + i)) = .string u := by rw [← hu]; rfl
      have HU := hide e1
      rw [e1]
      clear hu e1
      go_wp2
      go_roundw
      case rel => exact ⟨i + 1, _, by omega, by go_num, by go_num, by rw [← unhide HU]; exact (unhide HST).1, unhide HSET, (hb.trans ((unhide HB1).mono (by omega))).setCell hB _⟩
      case measure => simp [intOf]; omega
    · have hin : i = n := by omega
      have hys : ys = (marks k n).map sv := by
        apply List.ext_getElem?
        intro j
        by_cases hj : j < n
        · rw [unhide HY j (by omega), List.getElem?_map, marks_at k n j hj]; rfl
        · rw [List.getElem?_eq_none (by rw [unhide HYL]; omega), List.getElem?_eq_none (by rw [List.length_map, marks_len]; omega)]
      have HYS := hide hys
      have HIN := hide hin
      clear hys hin
      go_wp2
      go_ret
      exact ⟨ret_int (by have := unhide HIN; omega), by rw [← unhide HYS]; exact hown, hb⟩

set_option maxHeartbeats 400000 in
set_option maxRecDepth 100000 in
theorem heldS_any (B g n cap k : Nat) (w : World) (hown : w.ownsRow B 9 1 (.slice (some ⟨g, 0, none⟩) n cap) n ((marks k n).map sv)) (hk : 0 < k) (hkn : k + n ≤ 1000000) :
    Calls Tryd.prog 11 #[.slice (some ⟨g, 0, none⟩) n cap, .int .i64 k] w fun e w' => e = .returned (.int .i64 (k + n : Nat)) ∧ Below w.heap.size w w' := by
  have hgl := (hown.lt g rfl).2
  have HO := hide hown
  clear hown
  go_enter Tryd.func11, Tryd.ntmps11
  go_wp2
  go_loopw [1, 5] (fun kv iv wr => ∃ i : Nat, i ≤ n ∧ kv = .int .i64 ((k + i : Nat) : Int) ∧ iv = .int .i64 (i : Int) ∧ Below w.heap.size w wr) (fun _ iv _ => n - (intOf iv).toNat)
  case atStart => exact ⟨0, Nat.zero_le _, rfl, rfl, Below.refl _ _⟩
  case round =>
    obtain ⟨i, hi, rfl, rfl, hb⟩ := hrel
    have hsz := hb.size
    by_cases hlt : i < n
    · obtain ⟨u, hu⟩ : ∃ u : ByteArray, (⟨(mk (k + i)).toArray⟩ : ByteArray) = u := ⟨_, rfl⟩
      have e1 : sv (mk (k + i)) = .string u := by rw [← hu]; rfl
      have hc : wr.cell? ⟨g, i, none⟩ = some (.string u) := by
        rw [hb.cell (p := ⟨g, i, none⟩) hgl, (unhide HO).cellAt i (by omega), List.getElem?_map, marks_at k n i hlt, ← e1]; rfl
      have hm : ∀ W : World, wr.heap.size ≤ W.heap.size → Calls Tryd.prog 17 #[.int .i64 ((k : Int) + (i : Int))] W fun e w' => e = .returned (.string u) ∧ Below wr.heap.size W w' := fun W hW => by
        have := (markText_any (k + i) W (by omega) (by omega)).mono (fun e w' h => (⟨h.1, h.2.mono hW⟩ : e = .returned (sv (mk (k + i))) ∧ Below wr.heap.size W w'))
        rw [e1] at this
        simpa using this
      have HM := hide hm
      have hI : (0 : Int) ≤ (i : Int) ∧ (i : Int) < (n : Int) := by omega
      have hgr : g < wr.heap.size := by omega
      have HGR := hide hgr
      have huu : (!u.toList == u.toList) = false := by simp
      clear hu e1 hm hgr
      go_wp2_with fail
      go_region_held3 (fun W => W.cell? ⟨g, i, none⟩ = some (.string u))
        (first
          | exact hc
          | exact (Below.cell (B := wr.heap.size) (w := wr.drew) (by assumption) (p := ⟨g, i, none⟩) (unhide HGR)).trans hc)
        ((go_at_call 17; refine (unhide HM _ (by exact Nat.le_refl _)).mono ?_; rintro e w1 ⟨rfl, hb1⟩))
      go_wp2
      go_roundw
      case rel => exact ⟨i + 1, by omega, by go_num, by go_num, (hb.drew).trans (hb1.mono hsz)⟩
      case measure => simp [intOf]; omega
    · have hin : i = n := by omega
      have HIN := hide hin
      clear hin
      go_wp2
      go_ret
      exact ⟨ret_int (by have := unhide HIN; omega), hb⟩
end Go.Proofs.YtpncaomghmeneaiDoor
