/- The walk of the program's function that reads figures back into bytes, and of the law over both. -/
import Derived.Test.YtpncaomghmeneaaDoorUnhex
namespace Go.Proofs.YtpncaomghmeneaaDoor
open Go.RowKit

/-- One byte appended to a row of bytes that the call owns, as one step of a region that draws its order. -/
theorem step_append_one {P : Program} {ops : Array Oper} {o : Oper} {a : Act} {w : World} {K : Act → World → Prop} {Q : Exit → Act → World → Prop} {E : Prop}
    (hg : o.guard = none) (s x : Operand) (t : TypeId) (hop : o.op = Op.call { callee := Callee.builtin Builtin.append, args := #[s, x], argTypes := #[t, t] })
    (base : Nat) (e : TypeId) (hinfo : (P.info? e).map (fun i => (i.zero, i.size, i.bytes)) = some (some (.int .u8 0), 1, 1)) (ht : P.underlying t = some (.slice e))
    (v : Value) (bs : List UInt8) (hs : a.eval s = v) (hown : w.ownsRow base e 1 v bs.length (bs.map bv)) (ad : Addr) (b1 : UInt8)
    (hx : a.eval x = .slice (some ad) 1 1) (hc : ∀ j u, [bv b1][j]? = some u → w.cell? (ad.add j) = some u) (hlen : bs.length ≤ 70368744177664) (hbase : base ≤ w.heap.size)
    (hK : ∀ v' w', w'.ownsRow base e 1 v' (bs ++ [b1]).length ((bs ++ [b1]).map bv) → Below base w w' → K (a.put o.dst v') w') :
    if Region.wanted o (yielded ops a.tmps) = true then Oper.wp P o a w K Q else E := by
  have hw : Region.wanted o (yielded ops a.tmps) = true := by simp [Region.wanted, hg]
  rw [if_pos hw]
  obtain ⟨i0, hi, hz0, hz1, hz2⟩ := info_parts hinfo
  refine wp_append_own w s x t hop base e i0 (.int .u8 0) 1 1 ht hi hz0 hz1 hz2 rfl (by decide) v _ _ hs hown ad 1 1 [bv b1] hx rfl hc (by intro u hu; simp at hu; subst hu; rfl) (by unfold maxLen; omega) (by omega) hbase ?_
  intro v' w' hown' hgr _
  exact hK v' w' (by simpa using hown') ((Below.refl base w).grown hgr hbase (fun k hk => (hown.lt k hk).1))

/-- j of the values h have been paired into bs. -/
def PAt (h : List UInt8) (j : Nat) (bs : List UInt8) : Prop := j ≤ h.length ∧ j % 2 = 0 ∧ 2 * bs.length = j ∧ bs ++ pairs (h.drop j) = pairs h
theorem PAt.start (h : List UInt8) : PAt h 0 [] := ⟨Nat.zero_le _, rfl, rfl, rfl⟩
theorem PAt.next {h : List UInt8} {j : Nat} {bs : List UInt8} (p : PAt h j bs) (h1 : j + 1 < h.length) : PAt h (j + 2) (bs ++ [UInt8.ofNat (16 * h[j].toNat + h[j + 1].toNat)]) := by
  refine ⟨h1, by have := p.2.1; omega, by have := p.2.2.1; simp; omega, ?_⟩
  rw [← p.2.2.2, List.drop_eq_getElem_cons (show j < h.length by omega), List.drop_eq_getElem_cons h1]
  simp [pairs]
theorem PAt.fin {h : List UInt8} {j : Nat} {bs : List UInt8} (p : PAt h j bs) (h1 : ¬ j < h.length) : bs = pairs h := by
  rw [← p.2.2.2, List.drop_eq_nil_of_le (by omega)]; simp [pairs]

theorem fvals_small (lt : Bool) (l : List UInt8) : ∀ b ∈ fvals lt l, b.toNat < 16 := by
  induction l with
  | nil => simp [fvals]
  | cons c l ih =>
    cases hc : fv lt c.toNat with
    | none => simp [fvals, hc]
    | some x =>
      intro b hb
      simp only [fvals, hc, List.mem_cons] at hb
      rcases hb with rfl | hb
      · have := u8_nat x (by have := fv_lt hc; omega); have := fv_lt hc; omega
      · exact ih b hb

set_option maxHeartbeats 1000000 in
set_option maxRecDepth 100000 in
theorem implUnhex_any (s : ByteArray) (w : World) (hs : s.size ≤ 40000) (h2 : s.size % 2 = 0) :
    Calls Tryd.prog 14 #[.string s] w fun e w' => UEnd (unh s.data.toList) e ∧ Below w.heap.size w w' := by
  have hg0 : (((s.size : Int) % 2) != 0) = false := by simp; omega
  obtain ⟨i0, hi, hz0, hz1, hz2⟩ := info_parts Tryd.info5
  obtain ⟨q, hq⟩ : ∃ q : Nat, s.size / 2 = q := ⟨_, rfl⟩
  have hqi : (s.size : Int) / 2 = (q : Int) := by omega
  have hmk : i0.bytes * q ≤ 281474976710656 := by rw [hz2]; omega
  have hUP := unh_pairs s.data.toList (by rw [len_list]; exact h2)
  have hle := fvals_len true s.data.toList
  rw [len_list] at hUP hle
  have HU := hide hUP
  clear hUP
  by_cases hf : (fvals true s.data.toList).length = s.size
  · have HF := hide hf
    have HU2 : Hid (unh s.data.toList = some (pairs (fvals true s.data.toList))) := by have := unhide HU; rw [if_pos hf] at this; exact this
    obtain ⟨H, hH⟩ : ∃ H, H = fvals true s.data.toList := ⟨_, rfl⟩
    have HH := hide hH
    clear hf hH hle
    go_enter Tryd.func14, Tryd.ntmps14
    go_wp2_with fail
    refine (figs_true s _ hs).mono ?_; rintro e w1 ⟨⟨n, hn, rfl, hownH⟩, hbH⟩
    obtain rfl : n = s.size := hn.trans (unhide HF)
    have hn' : (((s.size : Nat) : Int) == (s.size : Int)) = true := by simp
    rw [← unhide HH] at hownH hn
    have HN := hide hn
    have HSM : Hid (∀ b ∈ H, b.toNat < 16) := by show ∀ b ∈ H, b.toNat < 16; rw [unhide HH]; exact fvals_small _ _
    clear hn hn'
    have hsz1 := hbH.size
    have hlt1 := (hownH.lt w.heap.size rfl).2
    go_wp2_with (at_make; refine wpList_make_own w1 rfl _ _ 22 rfl w1.heap.size 5 i0 (.int .u8 0) 1 Tryd.underlying22 hi hz0 hz1 .i64 .i64 (q : Int) q (by rfl) (by rfl) rfl hmk (by unfold maxLen; omega) (Nat.le_refl _) ?_; intro w0 hown0 hgr0)
    clear hi hz0 hz1 hz2 hmk hg0 hqi hq
    go_loopw [6, 7] (fun v iv wr => ∃ (j : Nat) (bs : List UInt8), iv = .int .i64 (j : Int) ∧ PAt H j bs ∧ wr.ownsRow w1.heap.size 5 1 v bs.length (bs.map bv) ∧ Below w1.heap.size w1 wr)
      (fun _ iv _ => s.size - (intOf iv).toNat)
    case atStart => exact ⟨0, [], rfl, PAt.start H, hown0, (Below.refl _ _).grown hgr0 (Nat.le_refl _) (by simp)⟩
    case round =>
      clear hown0 hgr0
      obtain ⟨j, bs, rfl, hP, hown, hnx⟩ := hrel
      have hj : j ≤ s.size := by have := hP.1; rw [← unhide HN] at this; exact this
      have hj2 := hP.2.1
      have hbl := hP.2.2.1
      have HP := hide hP
      clear hP
      have hsz := hnx.size
      by_cases hlt : j < s.size
      · have h1 : j + 1 < s.size := by omega
        have h1H : j + 1 < H.length := by rw [← unhide HN]; exact h1
        have hjH : j < H.length := Nat.lt_of_succ_lt h1H
        obtain ⟨x, hx⟩ : ∃ x : Nat, x = H[j].toNat := ⟨_, rfl⟩
        obtain ⟨y, hy⟩ : ∃ y : Nat, y = H[j + 1].toNat := ⟨_, rfl⟩
        have hxb : x < 16 := by rw [hx]; exact unhide HSM _ (List.getElem_mem _)
        have hyb : y < 16 := by rw [hy]; exact unhide HSM _ (List.getElem_mem _)
        have hcx : wr.cell? ⟨w.heap.size, j, none⟩ = some (.int .u8 (x : Int)) := by
          rw [hnx.cell (p := ⟨w.heap.size, j, none⟩) hlt1, hownH.cellAt j (by omega), hx, List.getElem?_map, List.getElem?_eq_getElem hjH]; rfl
        have hcy : wr.cell? ⟨w.heap.size, j + 1, none⟩ = some (.int .u8 (y : Int)) := by
          rw [hnx.cell (p := ⟨w.heap.size, j + 1, none⟩) hlt1, hownH.cellAt (j + 1) (by omega), hy, List.getElem?_map, List.getElem?_eq_getElem h1H]; rfl
        have HXY : Hid (x = H[j].toNat ∧ y = H[j + 1].toNat) := ⟨hx, hy⟩
        have HL : Hid (bs.length ≤ 70368744177664) := by show _ ≤ _; omega
        have HZ : Hid (w1.heap.size ≤ wr.heap.size + 1) := by show _ ≤ _; omega
        have HS : Hid (w1.heap.size ≤ wr.heap.size) := hsz
        have HX := hide hnx
        have HLT := hide hlt1
        clear hx hy hj2 hbl hownH hnx hsz
        go_wp2_with fail
        have hI1 : (0 : Int) ≤ (j : Int) ∧ (j : Int) < (s.size : Int) := by omega
        have hI2 : (0 : Int) ≤ (j : Int) + 1 ∧ (j : Int) + 1 < (s.size : Int) := by omega
        have hw1 : IntKind.i64.wrap ((j : Int) + 1) = (j : Int) + 1 := by rw [IntKind.wrap_i64]; omega
        have hw2 : IntKind.u8.wrap ((x : Int) * 16) = (x : Int) * 16 := by rw [IntKind.wrap_u8]; omega
        have hw3 : IntKind.u8.wrap ((x : Int) * 16 + (y : Int)) = ((UInt8.ofNat (16 * x + y)).toNat : Int) := by rw [IntKind.wrap_u8, u8_nat _ (by omega)]; omega
        go_region_held3 (fun W => W.cell? ⟨w.heap.size, j, none⟩ = some (.int .u8 (x : Int)) ∧ W.cell? ⟨w.heap.size, j + 1, none⟩ = some (.int .u8 (y : Int)))
          (first
            | exact ⟨hcx, hcy⟩
            | exact ⟨(((Below.refl _ wr).alloc (unhide HS) _).cell (p := ⟨w.heap.size, j, none⟩) (unhide HLT)).trans hcx, (((Below.refl _ wr).alloc (unhide HS) _).cell (p := ⟨w.heap.size, j + 1, none⟩) (unhide HLT)).trans hcy⟩
            | exact ⟨((((Below.refl _ wr).alloc (unhide HS) _).drew.trans ‹Below w1.heap.size _ _›).cell (p := ⟨w.heap.size, j, none⟩) (unhide HLT)).trans hcx, ((((Below.refl _ wr).alloc (unhide HS) _).drew.trans ‹Below w1.heap.size _ _›).cell (p := ⟨w.heap.size, j + 1, none⟩) (unhide HLT)).trans hcy⟩)
          ((refine step_append_one rfl (.tmp 34) (.tmp 46) 22 rfl w1.heap.size 5 Tryd.info5 Tryd.underlying22 _ bs (by rfl) (by exact hown.alloc _) ⟨wr.heap.size, 0, none⟩ (UInt8.ofNat (16 * x + y)) (by rfl) (by exact cell_one_new _ _ _) (unhide HL) (by have := unhide HZ; simp; exact this) ?_; intro v1 w2 hown1 hb1))
        go_wp2
        go_roundw
        case rel => exact ⟨j + 2, bs ++ [UInt8.ofNat (16 * x + y)], by go_num, by rw [(unhide HXY).1, (unhide HXY).2]; exact (unhide HP).next h1H, hown1, (((unhide HX).alloc (unhide HS) _).drew).trans hb1⟩
        case measure => simp [intOf]; omega
      · have hcv := run_string_own (P := Tryd.prog) wr 22 9 5 Tryd.underlying22 Tryd.underlying5 Tryd.underlying9 _ hown
        go_wp2
        go_ret2
        have hB := (unhide HP).fin (by rw [← unhide HN]; exact hlt)
        exact ⟨UEnd.yes (by rw [unhide HU2, ← unhide HH, hB]), hbH.trans (hnx.mono hsz1)⟩
  · have HU2 : Hid (unh s.data.toList = none) := by have := unhide HU; rw [if_neg hf] at this; exact this
    have HF := hide hf
    clear hf
    go_enter Tryd.func14, Tryd.ntmps14
    go_wp2_with fail
    refine (figs_true s _ hs).mono ?_; rintro e w1 ⟨⟨n, hn, rfl, hownH⟩, hbH⟩
    have hne : (((n : Nat) : Int) == (s.size : Int)) = false := by
      have : n ≠ s.size := fun e => unhide HF (hn.symm.trans e)
      simp; omega
    have HN := hide hn
    clear hn hownH
    go_wp2
    go_ret2
    exact ⟨UEnd.no (unhide HU2), hbH⟩

end Go.Proofs.YtpncaomghmeneaaDoor
