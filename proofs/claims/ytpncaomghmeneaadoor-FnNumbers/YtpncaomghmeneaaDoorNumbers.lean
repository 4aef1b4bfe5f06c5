/- The walk of the law FnNumbers: what is written is read back. -/
import Derived.Test.YtpncaomghmeneaaDoorTrip
import Derived.Test.YtpncaomghmeneaaDoorDrawB
namespace Go.Proofs.YtpncaomghmeneaaDoor
open Go.RowKit

theorem Code.step {w W : World} {ao : Option Addr} {n : Nat} (h : Code w w.heap.size ao n) (hb : Below w.heap.size w W) : Code W W.heap.size ao n := by
  intro hn
  obtain ⟨b, off, h1, h2, h3⟩ := h hn
  refine ⟨b, off, h1, Nat.lt_of_lt_of_le h2 hb.size, fun j hj => ?_⟩
  obtain ⟨z, hz, hc⟩ := h3 j hj
  exact ⟨z, hz, by rw [hb.cell (p := ⟨b, off + j, none⟩) h2]; exact hc⟩

theorem ba_size (l : List UInt8) : (⟨l.toArray⟩ : ByteArray).size = l.length := by simp [ByteArray.size]
theorem ba_app (a b : List UInt8) : (⟨a.toArray⟩ ++ ⟨b.toArray⟩ : ByteArray) = ⟨(a ++ b).toArray⟩ := by
  apply ByteArray.ext
  rw [ByteArray.data_append]
  simp

theorem big_no (ao : Option Addr) (n cap : Nat) (w : World) (hn : n ≤ 1048576) : Calls Tryd.prog 4 #[.slice ao n cap] w fun e w' => e = .returned (.bool false) ∧ w = w' := by
  go_enter Tryd.func4, Tryd.ntmps4
  go_wp2
  go_ret
  exact ⟨by simp; omega, rfl⟩
theorem big_yes (ao : Option Addr) (n cap : Nat) (w : World) (hn : 1048576 < n) : Calls Tryd.prog 4 #[.slice ao n cap] w fun e w' => e = .returned (.bool true) ∧ w = w' := by
  go_enter Tryd.func4, Tryd.ntmps4
  go_wp2
  go_ret
  exact ⟨by simp; omega, rfl⟩

theorem num_read (N : Nat) (W : World) (hN : N ≤ 1000000000) :
    Calls Tryd.prog 7 #[.string (⟨#[120]⟩ ++ ⟨(vbs N).toArray⟩ ++ ⟨#[121]⟩), .int .i64 1] W fun e w' => e = .returned (.tuple #[.int .i64 N, .int .i64 ((vbs N).length + 1 : Nat), .bool true]) ∧ Below W.heap.size W w' := by
  have hl := vbs_len_le 4 N (by omega)
  have e1 : (⟨#[120]⟩ ++ ⟨(vbs N).toArray⟩ ++ ⟨#[121]⟩ : ByteArray) = ⟨(120 :: (vbs N ++ [121])).toArray⟩ := by
    rw [show (⟨#[120]⟩ : ByteArray) = ⟨[120].toArray⟩ from rfl, show (⟨#[121]⟩ : ByteArray) = ⟨[121].toArray⟩ from rfl, ba_app, ba_app]; simp
  rw [e1]
  have h := implRead_any ⟨(120 :: (vbs N ++ [121])).toArray⟩ 1 W (by rw [ba_size]; simp; omega) (by rw [ba_size]; simp)
  refine h.mono ?_
  rintro e w' ⟨he, hb⟩
  rw [show ((⟨(120 :: (vbs N ++ [121])).toArray⟩ : ByteArray).data.toList.drop 1) = vbs N ++ [121] from by simp, rv_vbs N 5 0 0 [121] hl (by omega) (.inr rfl)] at he
  have he' : e = .returned (.tuple #[.int .i64 ((0 + N * 128 ^ 0 : Nat) : Int), .int .i64 ((1 + (0 + (vbs N).length) : Nat) : Int), .bool true]) := he
  refine ⟨?_, hb⟩
  rw [he', show 0 + N * 128 ^ 0 = N by simp, show 1 + (0 + (vbs N).length) = (vbs N).length + 1 by omega]

theorem dec_read (N : Nat) (W : World) (hN : N ≤ 1000000000) :
    Calls Tryd.prog 8 #[.string ⟨(dg N).toArray⟩] W fun e w' => e = .returned (.tuple #[.int .i64 N, .bool true]) ∧ Below W.heap.size W w' := by
  have hl := dg_len 9 N (by omega)
  have hp : 0 < (dg N).length := by
    by_cases h : N < 10
    · rw [dg_small N h]; simp
    · rw [dg_big N h]; simp
  have h := implRDec_any ⟨(dg N).toArray⟩ W (by rw [ba_size]; omega) (by rw [ba_size]; exact hp)
  refine h.mono ?_
  rintro e w' ⟨he, hb⟩
  rw [show (⟨(dg N).toArray⟩ : ByteArray).data.toList = dg N from rfl, rdec_dg N hN] at he
  exact ⟨he, hb⟩

theorem short_write (T : List UInt8) (W : World) (hT : T.length ≤ 300) :
    Calls Tryd.prog 11 #[.string ⟨T.toArray⟩] W fun e w' => e = .returned (.tuple #[.string ⟨(vbs T.length ++ T).toArray⟩, .bool true]) ∧ Below W.heap.size W w' := by
  have h := implShort_yes ⟨T.toArray⟩ W (by rw [ba_size]; omega)
  rw [ba_size, ba_app] at h
  exact h

theorem short_read (T : List UInt8) (W : World) (hT : T.length ≤ 300) :
    Calls Tryd.prog 12 #[.string ⟨(vbs T.length ++ T).toArray⟩, .int .i64 0] W fun e w' => e = .returned (.tuple #[.string ⟨T.toArray⟩, .int .i64 ((vbs T.length ++ T).length : Nat), .bool true]) ∧ Below W.heap.size W w' := by
  have hl := vbs_len_le 4 T.length (by omega)
  have hr : rv 5 ((⟨(vbs T.length ++ T).toArray⟩ : ByteArray).data.toList.drop 0) 0 0 = some (T.length, (vbs T.length).length) := by
    rw [show ((⟨(vbs T.length ++ T).toArray⟩ : ByteArray).data.toList.drop 0) = vbs T.length ++ T from by simp, rv_vbs T.length 5 0 0 T hl (by omega) (.inr rfl)]
    simp
  have h := implRShort_yes ⟨(vbs T.length ++ T).toArray⟩ 0 T.length (vbs T.length).length W (by rw [ba_size]; simp; omega) (Nat.zero_le _) hr (by omega) (by rw [ba_size]; simp)
  refine h.mono ?_
  rintro e w' ⟨he, hb⟩
  refine ⟨?_, hb⟩
  have e1 : (⟨(vbs T.length ++ T).toArray⟩ : ByteArray).extract (0 + (vbs T.length).length) (0 + (vbs T.length).length + T.length) = ⟨T.toArray⟩ := by
    apply ByteArray.ext
    rw [ByteArray.data_extract]
    apply Array.toList_inj.1
    simp
  rw [he, e1, show 0 + (vbs T.length).length + T.length = (vbs T.length ++ T).length by simp]

theorem hex_write (T : List UInt8) (W : World) (hT : T.length ≤ 300) :
    Calls Tryd.prog 13 #[.string ⟨T.toArray⟩] W fun e w' => e = .returned (.tuple #[.string ⟨(hexOf T).toArray⟩, .bool true]) ∧ Below W.heap.size W w' :=
  implHex_yes ⟨T.toArray⟩ W (by rw [ba_size]; omega)

theorem hex_read (T : List UInt8) (W : World) (hT : T.length ≤ 300) :
    Calls Tryd.prog 14 #[.string ⟨(hexOf T).toArray⟩] W fun e w' => e = .returned (.tuple #[.string ⟨T.toArray⟩, .bool true]) ∧ Below W.heap.size W w' := by
  have hl := hexOf_len T
  have h := implUnhex_any ⟨(hexOf T).toArray⟩ W (by rw [ba_size]; omega) (by rw [ba_size]; omega)
  refine h.mono ?_
  rintro e w' ⟨he, hb⟩
  rw [show (⟨(hexOf T).toArray⟩ : ByteArray).data.toList = hexOf T from rfl, unh_hex T] at he
  exact ⟨he, hb⟩

theorem pick_text (bs : List UInt8) : ∃ T : List UInt8, T.length ≤ 300 ∧ (300 < bs.length ∧ [97, 98, 99] = T ∨ ¬ 300 < bs.length ∧ bs = T) := by
  by_cases h : 300 < bs.length
  · exact ⟨[97, 98, 99], by simp, .inl ⟨h, rfl⟩⟩
  · exact ⟨bs, by omega, .inr ⟨h, rfl⟩⟩

theorem short_pair (T : List UInt8) (hT : T.length ≤ 300) : ∃ A : List UInt8, A.length ≤ 305 ∧
    (∀ W : World, Calls Tryd.prog 11 #[.string ⟨T.toArray⟩] W fun e w' => e = .returned (.tuple #[.string ⟨A.toArray⟩, .bool true]) ∧ Below W.heap.size W w') ∧
    (∀ W : World, Calls Tryd.prog 12 #[.string ⟨A.toArray⟩, .int .i64 0] W fun e w' => e = .returned (.tuple #[.string ⟨T.toArray⟩, .int .i64 (A.length : Nat), .bool true]) ∧ Below W.heap.size W w') :=
  ⟨vbs T.length ++ T, by have := vbs_len_le 4 T.length (by omega); simp; omega, fun W => short_write T W hT, fun W => short_read T W hT⟩
theorem hex_pair (T : List UInt8) (hT : T.length ≤ 300) : ∃ H : List UInt8,
    (∀ W : World, Calls Tryd.prog 13 #[.string ⟨T.toArray⟩] W fun e w' => e = .returned (.tuple #[.string ⟨H.toArray⟩, .bool true]) ∧ Below W.heap.size W w') ∧
    (∀ W : World, Calls Tryd.prog 14 #[.string ⟨H.toArray⟩] W fun e w' => e = .returned (.tuple #[.string ⟨T.toArray⟩, .bool true]) ∧ Below W.heap.size W w') :=
  ⟨hexOf T, fun W => hex_write T W hT, fun W => hex_read T W hT⟩

theorem below_chain {a b c : World} (h : Below a.heap.size a b) (k : Below b.heap.size b c) : Below a.heap.size a c := h.trans (k.mono h.size)

set_option maxHeartbeats 1000000 in
set_option maxRecDepth 100000 in
theorem lawNumbers_any (ao : Option Addr) (n cap : Nat) (w : World) (hm : n ≤ maxLen) (hcode : Code w w.heap.size ao n) (htab : Lib.TabIs Tryd.prog w "internal/strconv.uint64pow10" .u64 Lib.pow10Tab) :
    Calls Tryd.prog 3 #[.slice ao n cap] w fun e w' => e = .returned (.bool true) ∧ Below w.heap.size w w' := by
  unfold maxLen at hm
  have HT := hide htab
  have HO := hide hcode
  clear htab hcode
  by_cases hn : n ≤ 1048576
  · go_enter Tryd.func3, Tryd.ntmps3
    go_wp2_with fail
    refine (big_no ao n cap _ hn).mono ?_; rintro e w' ⟨rfl, rfl⟩
    go_wp2_with fail
    refine (drawNumber_any ao n cap _ hn (unhide HO)).mono ?_; rintro e w1 ⟨x, rfl, hb1⟩
    have HX : ∃ N : Nat, N ≤ 1000000000 ∧ ((x < 0 ∨ 1000000000 < x) ∧ N = 12345 ∨ ¬ (x < 0 ∨ 1000000000 < x) ∧ x = N) := by
      by_cases hx : x < 0 ∨ 1000000000 < x
      · exact ⟨12345, by omega, .inl ⟨hx, rfl⟩⟩
      · exact ⟨x.toNat, by omega, .inr ⟨hx, by omega⟩⟩
    obtain ⟨N, hN, ⟨hx, hN'⟩ | ⟨hx, rfl⟩⟩ := HX
    · have HN := hide hN'
      clear hN'
      go_wp2_with fail
      all_goals rw [show (12345 : Int) = (N : Int) from by have := unhide HN; omega]
      all_goals clear hx HN
      all_goals have hl := vbs_len_le 4 N (by omega)
      all_goals (refine (implVar_any N _ hN).mono ?_; rintro e w2 ⟨rfl, hb2⟩)
      all_goals go_wp2_with fail
      all_goals (refine (num_read N _ hN).mono ?_; rintro e w3 ⟨rfl, hb3⟩)
      all_goals go_wp2_with fail
      all_goals have c3 := below_chain (below_chain hb1 hb2) hb3
      all_goals (refine (implDecimal_any N _ (by omega) (by omega) (tab_later c3 (unhide HT))).mono ?_; rintro e w4 ⟨rfl, hb4⟩)
      all_goals rw [itoa_pos N]
      all_goals go_wp2_with fail
      all_goals (refine (dec_read N _ hN).mono ?_; rintro e w5 ⟨rfl, hb5⟩)
      all_goals go_wp2_with fail
      all_goals have c5 := below_chain (below_chain c3 hb4) hb5
      all_goals (refine (drawHex_any ao n cap _ hn (Code.step (unhide HO) c5)).mono ?_; rintro e w6 ⟨bs, hbs, rfl, hb6⟩)
      all_goals have c6 := below_chain c5 hb6
      all_goals have HB := pick_text bs
      all_goals obtain ⟨T, hT, ⟨hy, hz⟩ | ⟨hy, hz⟩⟩ := HB
      all_goals have HZ := hide hz
      all_goals clear hz
      all_goals go_wp2_with fail
      all_goals first | rw [show (⟨#[97, 98, 99]⟩ : ByteArray) = ⟨T.toArray⟩ from by rw [← unhide HZ]] | rw [show (⟨bs.toArray⟩ : ByteArray) = ⟨T.toArray⟩ from by rw [unhide HZ]]
      all_goals clear hy HZ
      all_goals obtain ⟨A, hA, hsw, hsr⟩ := short_pair T hT
      all_goals obtain ⟨H, hhw, hhr⟩ := hex_pair T hT
      all_goals (refine (hsw _).mono ?_; rintro e w7 ⟨rfl, hb7⟩)
      all_goals go_wp2_with fail
      all_goals (refine (hsr _).mono ?_; rintro e w8 ⟨rfl, hb8⟩)
      all_goals go_wp2_with fail
      all_goals (refine (hhw _).mono ?_; rintro e w9 ⟨rfl, hb9⟩)
      all_goals go_wp2_with fail
      all_goals (refine (hhr _).mono ?_; rintro e w10 ⟨rfl, hb10⟩)
      all_goals have c10 := below_chain (below_chain (below_chain (below_chain c6 hb7) hb8) hb9) hb10
      all_goals generalize vbs N = V at hl ⊢
      all_goals clear hb1 hb2 hb3 hb4 hb5 hb6 hb7 hb8 hb9 hb10 c3 c5 c6 hsw hsr hhw hhr
      all_goals go_wp2_with fail
      all_goals go_ret
      all_goals exact ⟨rfl, c10⟩
    · clear hx
      go_wp2_with fail
      all_goals have hl := vbs_len_le 4 N (by omega)
      all_goals (refine (implVar_any N _ hN).mono ?_; rintro e w2 ⟨rfl, hb2⟩)
      all_goals go_wp2_with fail
      all_goals (refine (num_read N _ hN).mono ?_; rintro e w3 ⟨rfl, hb3⟩)
      all_goals go_wp2_with fail
      all_goals have c3 := below_chain (below_chain hb1 hb2) hb3
      all_goals (refine (implDecimal_any N _ (by omega) (by omega) (tab_later c3 (unhide HT))).mono ?_; rintro e w4 ⟨rfl, hb4⟩)
      all_goals rw [itoa_pos N]
      all_goals go_wp2_with fail
      all_goals (refine (dec_read N _ hN).mono ?_; rintro e w5 ⟨rfl, hb5⟩)
      all_goals go_wp2_with fail
      all_goals have c5 := below_chain (below_chain c3 hb4) hb5
      all_goals (refine (drawHex_any ao n cap _ hn (Code.step (unhide HO) c5)).mono ?_; rintro e w6 ⟨bs, hbs, rfl, hb6⟩)
      all_goals have c6 := below_chain c5 hb6
      all_goals have HB := pick_text bs
      all_goals obtain ⟨T, hT, ⟨hy, hz⟩ | ⟨hy, hz⟩⟩ := HB
      all_goals have HZ := hide hz
      all_goals clear hz
      all_goals go_wp2_with fail
      all_goals first | rw [show (⟨#[97, 98, 99]⟩ : ByteArray) = ⟨T.toArray⟩ from by rw [← unhide HZ]] | rw [show (⟨bs.toArray⟩ : ByteArray) = ⟨T.toArray⟩ from by rw [unhide HZ]]
      all_goals clear hy HZ
      all_goals obtain ⟨A, hA, hsw, hsr⟩ := short_pair T hT
      all_goals obtain ⟨H, hhw, hhr⟩ := hex_pair T hT
      all_goals (refine (hsw _).mono ?_; rintro e w7 ⟨rfl, hb7⟩)
      all_goals go_wp2_with fail
      all_goals (refine (hsr _).mono ?_; rintro e w8 ⟨rfl, hb8⟩)
      all_goals go_wp2_with fail
      all_goals (refine (hhw _).mono ?_; rintro e w9 ⟨rfl, hb9⟩)
      all_goals go_wp2_with fail
      all_goals (refine (hhr _).mono ?_; rintro e w10 ⟨rfl, hb10⟩)
      all_goals have c10 := below_chain (below_chain (below_chain (below_chain c6 hb7) hb8) hb9) hb10
      all_goals generalize vbs N = V at hl ⊢
      all_goals clear hb1 hb2 hb3 hb4 hb5 hb6 hb7 hb8 hb9 hb10 c3 c5 c6 hsw hsr hhw hhr
      all_goals go_wp2_with fail
      all_goals go_ret
      all_goals exact ⟨rfl, c10⟩
  · go_enter Tryd.func3, Tryd.ntmps3
    go_wp2_with fail
    refine (big_yes ao n cap _ (by omega)).mono ?_; rintro e w' ⟨rfl, rfl⟩
    go_wp2
    go_ret
    exact ⟨rfl, Below.refl _ _⟩
end Go.Proofs.YtpncaomghmeneaaDoor
