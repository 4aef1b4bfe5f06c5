/- The walk of the law FnTurned. -/
import Derived.Test.YtjjbjpilheedjaaDoorTurn
import Derived.Test.YtjjbjpilheedjaaDoorPlaces
import Derived.Lib.ConvBytes
import Derived.BigQuiet
import Derived.Deep.QuietTactic
namespace Go.Proofs.YtjjbjpilheedjaaDoor
open Go.RowKit

theorem Code.step {w W : World} {ao : Option Addr} {n : Nat} (h : Code w w.heap.size ao n) (hb : Below w.heap.size w W) : Code W W.heap.size ao n := by
  intro hn
  obtain ⟨b, off, h1, h2, h3⟩ := h hn
  refine ⟨b, off, h1, Nat.lt_of_lt_of_le h2 hb.size, fun j hj => ?_⟩
  obtain ⟨z, hz, hc⟩ := h3 j hj
  exact ⟨z, hz, by rw [hb.cell (p := ⟨b, off + j, none⟩) h2]; exact hc⟩

theorem big_no (ao : Option Addr) (n cap : Nat) (w : World) (hn : n ≤ 1048576) : Calls Tryd.prog 5 #[.slice ao n cap] w fun e w' => e = .returned (.bool false) ∧ w = w' := by
  go_enter Tryd.func5, Tryd.ntmps5
  go_wp2
  go_ret
  exact ⟨by simp; omega, rfl⟩
theorem big_yes (ao : Option Addr) (n cap : Nat) (w : World) (hn : 1048576 < n) : Calls Tryd.prog 5 #[.slice ao n cap] w fun e w' => e = .returned (.bool true) ∧ w = w' := by
  go_enter Tryd.func5, Tryd.ntmps5
  go_wp2
  go_ret
  exact ⟨by simp; omega, rfl⟩

/-- All that the law calls at a drawn text, in letters. -/
theorem turn_letters (bs : List UInt8) (hl : bs.length < 40) : ∃ (s t : ByteArray) (L : List UInt8) (a b : Nat), (⟨bs.toArray⟩ : ByteArray) = s ∧ (⟨L.toArray⟩ : ByteArray) = t ∧ L.length = s.size + 4 ∧ t.size = s.size + 4 ∧ s.size < 40 ∧
    (∀ W : World, Nib W → Calls Tryd.prog 18 #[.string s] W fun e w' => e = .returned (.tuple #[.string t, .bool true]) ∧ Below W.heap.size W w') ∧
    (∀ W : World, Nib W → Calls Tryd.prog 19 #[.string t] W fun e w' => e = .returned (.tuple #[.string s, .bool true]) ∧ Below W.heap.size W w') ∧
    (∀ (i : Nat) (hi : i < L.length) (u : UInt8), u ≠ L[i] → ∀ W : World, Nib W → Calls Tryd.prog 19 #[.string ⟨(L.set i u).toArray⟩] W fun e w' => e = .returned (.tuple #[.string ⟨#[]⟩, .bool false]) ∧ Below W.heap.size W w') ∧
    (∀ W : World, Nib W → Calls Tryd.prog 21 #[.string s] W fun e w' => e = .returned (.int .u32 (a : Int)) ∧ W = w') ∧
    (∀ W : World, Nib W → Calls Tryd.prog 20 #[.int .u32 (a : Int), .string ⟨#[120]⟩] W fun e w' => e = .returned (.int .u32 (b : Int)) ∧ W = w') ∧
    (∀ W : World, Nib W → Calls Tryd.prog 21 #[.string (s ++ ⟨#[120]⟩)] W fun e w' => e = .returned (.int .u32 (b : Int)) ∧ W = w') := by
  have hs : (⟨bs.toArray⟩ : ByteArray).size = bs.length := size_of bs
  have hL := sealL_len bs
  refine ⟨⟨bs.toArray⟩, ⟨(sealL bs).toArray⟩, sealL bs, smore 4294967295 bs, smore 4294967295 (bs ++ [120]), rfl, rfl, by rw [hs, hL], by rw [size_of, hs, hL], by rw [hs]; exact hl, ?_, ?_, ?_, ?_, ?_, ?_⟩
  · intro W hW
    have h := implSealed_yes ⟨bs.toArray⟩ W (by rw [hs]; omega) hW
    rw [seal_app] at h
    exact h
  · intro W hW
    have h := implUnsealed_yes ⟨(sealL bs).toArray⟩ bs.length W (by rw [size_of, hL]) (by omega) hW (by rw [seal_front, seal_back])
    rw [seal_front] at h
    exact h
  · intro i hi u hu W hW
    exact implUnsealed_no ⟨((sealL bs).set i u).toArray⟩ bs.length W (by rw [size_of, List.length_set, hL]) (by omega) hW (seal_turned bs i u hi hu)
  · intro W hW
    exact implOf_any ⟨bs.toArray⟩ W (by rw [hs]; omega) hW
  · intro W hW
    have h := implMore_any (smore 4294967295 bs) ⟨#[120]⟩ W (smore_lt _ (by decide)) (by decide) hW
    rw [show (⟨#[120]⟩ : ByteArray).data.toList = [120] from rfl, smore_x] at h
    exact h
  · intro W hW
    have e : (⟨bs.toArray⟩ : ByteArray) ++ ⟨#[120]⟩ = ⟨(bs ++ [120]).toArray⟩ := by
      apply bytes_of
      rw [ByteArray.data_append, Array.toList_append, list_of, list_of]
    have h := implOf_any ⟨(bs ++ [120]).toArray⟩ W (by rw [size_of]; simp; omega) hW
    rw [← e] at h
    rw [show (⟨bs.toArray⟩ ++ ⟨#[120]⟩ : ByteArray).data.toList = bs ++ [120] from by rw [e, list_of]] at h
    exact h

/-- The bytes of a text, in a new row. -/
theorem conv_bytes (w : World) (L : List UInt8) : ∃ (cp : Nat) (w' : World), (convert 9 22 (.string ⟨L.toArray⟩)).run Tryd.prog w = .ok (.slice (some ⟨w.heap.size, 0, none⟩) L.length cp) w' ∧ Below w.heap.size w w' ∧ w.heap.size < w'.heap.size ∧
    (∀ j (h : j < L.length), w'.cell? ⟨w.heap.size, j, none⟩ = some (.int .u8 (L[j].toNat : Int))) ∧ (∀ j, j < L.length → w'.frozen? ⟨w.heap.size, j, none⟩ = false) := by
  have h := Lib.run_convert_string_bytes (P := Tryd.prog) w 9 22 5 ⟨L.toArray⟩ Tryd.underlying9 Tryd.underlying22 Tryd.underlying5
  rw [size_of] at h
  refine ⟨_, _, h, ⟨rfl, rfl, rfl, by rw [Lib.bytesWorld_size]; omega, fun k hk => Lib.bytesWorld_at_old w 5 _ k hk⟩, by rw [Lib.bytesWorld_size]; omega, ?_, ?_⟩
  · intro j hj
    rw [Lib.bytesWorld_cell w 5 ⟨L.toArray⟩ j (by rw [size_of]; exact hj), list_of]
    simp [List.getD, hj]
  · intro j hj
    have hsz : L.length ≤ (Lib.bytesCells w 5 ⟨L.toArray⟩).size := by simp [Lib.bytesCells, ByteArray.size]
    simp only [World.frozen?, Lib.bytesWorld_at_new]
    simp
    omega

/-- The row's cells behind the turn. -/
theorem turned_cell {w : World} {g : Nat} {L : List UInt8} (hc : ∀ j (h : j < L.length), w.cell? ⟨g, j, none⟩ = some (.int .u8 (L[j].toNat : Int))) (i : Nat) (hi : i < L.length) (v : Nat) (hv : v < 256) (j : Nat) (hj : j < (L.set i (UInt8.ofNat v)).length) :
    (w.setCell ⟨g, i, none⟩ (.int .u8 (v : Int))).drew.cell? ((⟨g, 0, none⟩ : Addr).add j) = some (.int .u8 ((L.set i (UInt8.ofNat v))[j].toNat : Int)) := by
  have hj' : j < L.length := by simpa using hj
  rw [show (⟨g, 0, none⟩ : Addr).add j = ⟨g, j, none⟩ from by by_cases h0 : j = 0 <;> simp [Addr.add, h0]]
  show (w.setCell ⟨g, i, none⟩ (.int .u8 (v : Int))).cell? ⟨g, j, none⟩ = _
  by_cases hij : i = j
  · subst hij
    rw [World.cell?_setCell_same' w _ _ (by rw [hc i hi]; rfl), List.getElem_set_self, u8_nat v hv]
  · have hab : (⟨g, i, none⟩ : Addr) ≠ ⟨g, j, none⟩ := by intro e; injection e with _ e2 _; exact hij e2
    rw [World.cell?_setCell_other (h := hab), List.getElem_set_ne hij]
    exact hc j hj'

theorem lawTurned_any (ao : Option Addr) (n cap : Nat) (w : World) (hcode : Code w w.heap.size ao n) (hg : 0 < w.heap.size) (hnib : Nib w) :
    Calls Tryd.prog 4 #[.slice ao n cap] w fun e w' => e = .returned (.bool true) ∧ Below w.heap.size w w' := by
  have HO := hide hcode
  have HN := hide hnib
  clear hcode hnib
  by_cases hbig : n ≤ 1048576
  · go_enter Tryd.func4, Tryd.ntmps4
    go_wp2_with fail
    refine (big_no ao n cap _ hbig).mono ?_; rintro e w' ⟨rfl, rfl⟩
    go_wp2_with fail
    refine (drawSumOf_any ao n cap _ hbig (unhide HO)).mono ?_; rintro e w1 ⟨bs, hbs, rfl, hb1⟩
    obtain ⟨s, t, L, a, b, es, et, hL, ht, hs, h18, h19, h19n, h21, h20, h21x⟩ := turn_letters bs hbs
    rw [es]
    clear es hbs
    have HO1 := hide ((unhide HO).step hb1)
    have H18 := hide h18
    have H19 := hide h19
    have H19N := hide h19n
    have H21 := hide h21
    have H20 := hide h20
    have H21X := hide h21x
    have HL := hide hL
    have ET := hide et
    clear h18 h19 h19n h21 h20 h21x hL et bs
    go_wp2_with fail
    refine (drawPlaces_any ao n cap _ hbig (unhide HO1)).mono ?_; rintro e w2 ⟨g, cp, x, y, rfl, hgl, hc0, hc1, hx, hy, hb2⟩
    have hb12 : Below w.heap.size w w2 := hb1.trans (hb2.mono hb1.size)
    have hs2 := hb12.size
    go_wp2_with fail
    refine (unhide H18 _ ((unhide HN).later hb12 hg)).mono ?_; rintro e w3 ⟨rfl, hb3⟩
    have hb13 : Below w.heap.size w w3 := hb12.trans (hb3.mono hs2)
    have hs3 := hb3.size
    go_wp2_with fail
    refine (unhide H19 _ ((unhide HN).later hb13 hg)).mono ?_; rintro e w4 ⟨rfl, hb4⟩
    have hb14 : Below w.heap.size w w4 := hb13.trans (hb4.mono (by omega))
    have hs4 := hb4.size
    have k0 : w4.cell? ⟨g, 0, none⟩ = some (.int .i64 (x : Int)) := by rw [hb4.cell (p := ⟨g, 0, none⟩) (by show g < _; omega), hb3.cell (p := ⟨g, 0, none⟩) hgl]; exact hc0
    have k1 : w4.cell? ⟨g, 1, none⟩ = some (.int .i64 (y : Int)) := by rw [hb4.cell (p := ⟨g, 1, none⟩) (by show g < _; omega), hb3.cell (p := ⟨g, 1, none⟩) hgl]; exact hc1
    have hg4 : g < w4.heap.size := by omega
    clear hc0 hc1
    obtain ⟨cpb, w5, hcv, hb5, hg5, hcell, hfz⟩ := conv_bytes w4 L
    rw [unhide ET] at hcv
    obtain ⟨m, hm⟩ : ∃ m, L.length = m := ⟨_, rfl⟩
    rw [hm] at hcv hfz
    have hm4 : m = s.size + 4 := by rw [← hm]; exact unhide HL
    obtain ⟨i, hi⟩ : ∃ i, x % m = i := ⟨_, rfl⟩
    have hilt : i < m := by rw [← hi]; exact Nat.mod_lt _ (by omega)
    have hiL : i < L.length := by rw [hm]; exact hilt
    obtain ⟨c, hc⟩ : ∃ c, L[i].toNat = c := ⟨_, rfl⟩
    have hcb : c < 256 := by rw [← hc]; exact L[i].toNat_lt
    have hci := hcell i hiL
    rw [hc] at hci
    have hfi := hfz i hilt
    have k1' : w5.cell? ⟨g, 1, none⟩ = some (.int .i64 (y : Int)) := by rw [hb5.cell (p := ⟨g, 1, none⟩) hg4]; exact k1
    have k0' : w5.cell? ⟨g, 0, none⟩ = some (.int .i64 (x : Int)) := by rw [hb5.cell (p := ⟨g, 0, none⟩) hg4]; exact k0
    obtain ⟨d, hd⟩ : ∃ d, 1 + y % 255 = d := ⟨_, rfl⟩
    have hdb : d < 256 := by omega
    have hd0 : 0 < d := by omega
    have hdi : IntKind.u8.wrap (1 + (y : Int) % 255) = (d : Int) := by rw [IntKind.wrap_u8]; omega
    have hdi2 : 1 + (y : Int) % 255 = (d : Int) := by omega
    obtain ⟨v, hv⟩ : ∃ v, c ^^^ d = v := ⟨_, rfl⟩
    have hvb : v < 256 := by rw [← hv]; exact Nat.xor_lt_two_pow (n := 8) (by omega) (by omega)
    have hxr : bits .xor .u8 (c : Int) (d : Int) = (v : Int) := by rw [u8_xor_nat c d hcb hdb, hv]
    have hri : (x : Int) % (m : Int) = (i : Int) := by rw [← hi]; simp
    have hI : (0 : Int) ≤ (i : Int) ∧ (i : Int) < (m : Int) := by omega
    have hmz : ¬ (m : Int) = 0 := by omega
    have HM := hide hm
    have HI := hide hi
    have HC := hide hc
    have HV := hide hv
    have HCELL := hide hcell
    have HM4 := hide hm4
    have hmt : t.size = s.size + 4 := ht
    clear hm hi hc hv hcell hm4 hfz hd k0 k1
    go_wp2_with fail
    rw [hri]
    have HS := hide hs
    clear hri hmt ht hs
    go_region
    obtain ⟨w6, hw6⟩ : ∃ w6, (w5.setCell ⟨w4.heap.size, i, none⟩ (.int .u8 (v : Int))).drew = w6 := ⟨_, rfl⟩
    rw [hw6]
    obtain ⟨t2, ht2⟩ : ∃ t2 : ByteArray, (⟨(L.set i (UInt8.ofNat v)).toArray⟩ : ByteArray) = t2 := ⟨_, rfl⟩
    have hne : UInt8.ofNat v ≠ L[i] := by
      intro e
      have e2 := congrArg UInt8.toNat e
      rw [u8_of, unhide HC, ← unhide HV] at e2
      have := xor_ne c d hd0
      rw [unhide HV] at this e2
      omega
    have h19t := unhide H19N i hiL (UInt8.ofNat v) hne
    rw [ht2] at h19t
    have hcv2 : (convert 22 9 (.slice (some ⟨w4.heap.size, 0, none⟩) m cpb)).run Tryd.prog w6 = .ok (.string t2) w6 := by
      have h := run_convert_bytes_back (P := Tryd.prog) w6 22 9 5 ⟨w4.heap.size, 0, none⟩ cpb (L.set i (UInt8.ofNat v)) Tryd.underlying22 Tryd.underlying5 Tryd.underlying9 (fun j hj => by
        rw [← hw6]
        exact turned_cell (unhide HCELL) i hiL v hvb j hj)
      rw [List.length_set, unhide HM, ht2] at h
      exact h
    have hb56 : Below w4.heap.size w5 w6 := by rw [← hw6]; exact ((Below.refl _ w5).setCell (p := ⟨w4.heap.size, i, none⟩) (Nat.le_refl _) _).drew
    have hb16 : Below w.heap.size w w6 := hb14.trans ((hb5.trans hb56).mono (by omega))
    have hn6 := (unhide HN).later hb16 hg
    have HN6 := hide hn6
    have H19T := hide h19t
    have HB16 := hide hb16
    have hs6 := hb16.size
    clear hn6 h19t hb16 hw6 hne hb56 hci hfi hcv hxr hdi hdi2 k0' k1' hI hmz ht2
    go_wp2_with fail
    refine (unhide H19T _ (unhide HN6)).mono ?_; rintro e w7 ⟨rfl, hb7⟩
    have hb17 : Below w.heap.size w w7 := (unhide HB16).trans (hb7.mono hs6)
    have HN7 := hide ((unhide HN).later hb17 hg)
    have HB17 := hide hb17
    clear hb17 hcv2
    go_wp2_with fail
    refine (unhide H21 _ (unhide HN7)).mono ?_; rintro e w8 ⟨rfl, rfl⟩
    go_wp2_with fail
    refine (unhide H20 _ (unhide HN7)).mono ?_; rintro e w8 ⟨rfl, rfl⟩
    have hs := unhide HS
    have hs1 : (⟨#[120]⟩ : ByteArray).size = 1 := rfl
    go_wp2_with fail
    refine (unhide H21X _ (unhide HN7)).mono ?_; rintro e w8 ⟨rfl, rfl⟩
    go_wp2
    go_ret
    exact ⟨rfl, unhide HB17⟩
  · go_enter Tryd.func4, Tryd.ntmps4
    go_wp2_with fail
    refine (big_yes ao n cap _ (by omega)).mono ?_; rintro e w' ⟨rfl, rfl⟩
    go_wp2
    go_ret
    exact ⟨rfl, Below.refl _ _⟩
end Go.Proofs.YtjjbjpilheedjaaDoor
