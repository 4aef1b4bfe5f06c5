/- The walk of the program's function that reads decimal figures, and of the law over both. -/
import Derived.Test.YtpncaomghmeneaaDoorRDec
namespace Go.Proofs.YtpncaomghmeneaaDoor
open Go.RowKit

set_option maxHeartbeats 1000000 in
set_option maxRecDepth 100000 in
theorem implRDec_any (s : ByteArray) (w : World) (hs : s.size ≤ 10) (hp : 0 < s.size) :
    Calls Tryd.prog 8 #[.string s] w fun e w' => DEnd (rdec s.data.toList) e ∧ Below w.heap.size w w' := by
  have hem : s.toList.isEmpty = false := by rw [ByteArray.toList_eq]; cases h : s.data.toList with
    | nil => have := len_list s; rw [h] at this; simp at this; omega
    | cons a l => rfl
  obtain ⟨c0, hc0⟩ : ∃ c : Nat, s[0].toNat = c := ⟨_, rfl⟩
  have hc0b : c0 < 256 := by rw [← hc0]; exact s[0].toNat_lt
  have hhd : s.data.toList.head? = some s[0] := by have := drop_here s 0 hp; rw [List.drop_zero] at this; rw [this]; rfl
  by_cases hz : c0 = 48 ∧ s.toList ≠ [48]
  · have h1 : (c0 : Int) = 48 := by omega
    have h2 : (!s.toList == [48]) = true := by simp [hz.2]
    have hne : rdec s.data.toList = none := by
      have h48 : s[0] = 48 := UInt8.toNat_inj.1 (by rw [hc0]; exact hz.1)
      refine rdec_ne (dg_not _ (by rw [hhd, h48]) ?_)
      have h3 := hz.2
      rw [ByteArray.toList_eq] at h3
      cases h : s.data.toList with
      | nil => have := len_list s; rw [h] at this; simp at this; omega
      | cons a l =>
        cases l with
        | nil => rw [h] at h3 hhd; simp at hhd; exact absurd (by rw [hhd, h48]) h3
        | cons b l => simp
    have HNE := hide hne
    clear hz hne hhd
    go_enter Tryd.func8, Tryd.ntmps8
    go_wp2_with fail
    go_ret2
    exact ⟨DEnd.no (unhide HNE), Below.refl _ _⟩
  · have hdg : (∀ c ∈ s.data.toList, isDig c) → dg (num s.data.toList) = s.data.toList := by
      intro hd
      refine (dg_num (s.size - 1) _ (by rw [len_list]; omega) hd ?_).1
      by_cases hc : c0 = 48
      · left
        have h3 : s.toList = [48] := Classical.byContradiction fun h => hz ⟨hc, h⟩
        rw [ByteArray.toList_eq] at h3
        have := len_list s
        rw [h3] at this
        simp at this
        omega
      · right
        rw [hhd]
        simp only [ne_eq, Option.some.injEq]
        intro e
        rw [e] at hc0
        exact hc hc0.symm
    have HG := hide hdg
    have hdisj : ((c0 : Int) = 48 ∧ (!s.toList == [48]) = false) ∨ ¬ (c0 : Int) = 48 := by
      by_cases hc : c0 = 48
      · left
        have h3 : s.toList = [48] := Classical.byContradiction fun h => hz ⟨hc, h⟩
        exact ⟨by omega, by simp [h3]⟩
      · right; omega
    clear hz hhd hdg
    rcases hdisj with ⟨h1, h2⟩ | h1
    all_goals
      go_enter Tryd.func8, Tryd.ntmps8
      go_wp2_with fail
      refine (figs_false s _ (by omega)).mono ?_; rintro e w1 ⟨⟨n, hn, rfl, hownH⟩, hbH⟩
      by_cases hf : n = s.size
      · obtain ⟨hdig, hmap⟩ := fvals_all s.data.toList (by rw [len_list, ← hf]; exact hn.symm)
        subst hf
        have HN := hide hn
        have HDIG := hide hdig
        have HMAP := hide hmap
        clear hn hdig hmap hem hc0 hc0b h1
        try clear h2
        have hsz1 := hbH.size
        have hlt1 := (hownH.lt w.heap.size rfl).2
        have HO := hide hownH
        clear hownH
        have heq : (((s.size : Nat) : Int) == (s.size : Int)) = true := by simp
        go_wp2_with fail
        have HP := hide hp
        clear heq hp
        go_loopw [6, 32] (fun nv iv wr => ∃ k n : Nat, nv = .int .i64 (n : Int) ∧ iv = .int .i64 (k : Int) ∧ DAt s k n ∧ Below w1.heap.size w1 wr) (fun _ iv _ => s.size - (intOf iv).toNat)
        case atStart => exact ⟨0, 0, rfl, rfl, DAt.start s, Below.refl _ _⟩
        case round =>
          obtain ⟨k, n, rfl, rfl, hD, hb⟩ := hrel
          have hk := hD.1
          have hnb := hD.lt (by omega)
          have HD := hide hD
          clear hD
          by_cases hlt : k < s.size
          · obtain ⟨c, hcx⟩ : ∃ c : Nat, s[k].toNat = c := ⟨_, rfl⟩
            have hmem : s[k] ∈ s.data.toList := List.mem_of_mem_drop (i := k) (by rw [drop_here s k hlt]; simp)
            have hdk : 48 ≤ c ∧ c ≤ 57 := by rw [← hcx]; exact unhide HDIG _ hmem
            obtain ⟨v, hv⟩ : ∃ v : Nat, v = c - 48 := ⟨_, rfl⟩
            have hcell : wr.cell? ⟨w.heap.size, k, none⟩ = some (.int .u8 (v : Int)) := by
              rw [hb.cell (p := ⟨w.heap.size, k, none⟩) hlt1, (unhide HO).cellAt k (by omega), unhide HMAP]
              rw [List.map_map, List.getElem?_map, List.getElem?_eq_getElem (by rw [len_list]; exact hlt)]
              have e : s.data.toList[k]'(by rw [len_list]; exact hlt) = s[k] := rfl
              rw [e]
              simp only [Option.map_some, Function.comp, bv, hcx]
              rw [u8_nat _ (by omega), hv]
            have HV := hide hv
            have HC := hide hcx
            have hvb : v ≤ 9 := by omega
            clear hv hcx hmem
            go_wp2
            go_roundw
            case rel => exact ⟨k + 1, 10 * n + v, by go_num, by go_num, by rw [unhide HV, ← unhide HC]; exact (unhide HD).next hlt (by rw [unhide HC]; exact hdk), hb⟩
            case measure => simp [intOf]; omega
          · have hF := (unhide HD).fin hlt
            have HF := hide hF
            clear hF
            by_cases hbig : 1000000000 < n
            · go_wp2
              go_ret2
              exact ⟨DEnd.no (rdec_big (by rw [← (unhide HF).2]; exact hbig)), hbH.trans (hb.mono hsz1)⟩
            · go_wp2
              go_ret2
              exact ⟨DEnd.yes (rdec_yes (by rw [len_list]; exact hs) (unhide HDIG) (by rw [← (unhide HF).2]; omega) (unhide HG (unhide HDIG))) (by rw [← (unhide HF).2]), hbH.trans (hb.mono hsz1)⟩
      · have hne : (((n : Nat) : Int) == (s.size : Int)) = false := by simp; omega
        have HNO : Hid (rdec s.data.toList = none) := by
          obtain ⟨c, hc, hn2⟩ := fvals_bad s.data.toList (by rw [len_list, ← hn]; exact hf)
          exact rdec_dig hc hn2
        clear hn hownH hem hc0 hc0b h1
        try clear h2
        go_wp2
        go_ret2
        exact ⟨DEnd.no (unhide HNO), hbH⟩

theorem implRDec_no (s : ByteArray) (w : World) (hm : s.size ≤ 1048576) (hs : ¬ (s.size ≤ 10 ∧ 0 < s.size)) :
    Calls Tryd.prog 8 #[.string s] w fun e w' => DEnd (rdec s.data.toList) e ∧ Below w.heap.size w w' := by
  by_cases h0 : s.size = 0
  · obtain rfl : s = ⟨#[]⟩ := ByteArray.ext (Array.eq_empty_of_size_eq_zero h0)
    have hn : rdec [] = none := rdec_ne (by rw [show num [] = 0 from rfl, dg_small 0 (by decide)]; simp)
    have HN := hide hn
    clear hn hs h0 hm
    go_enter Tryd.func8, Tryd.ntmps8
    go_wp2
    go_ret2
    exact ⟨DEnd.no (unhide HN), Below.refl _ _⟩
  · have h10 : 10 < s.size := by omega
    have hem : s.toList.isEmpty = false := by rw [ByteArray.toList_eq]; cases h : s.data.toList with
      | nil => have := len_list s; rw [h] at this; simp at this; omega
      | cons a l => rfl
    clear hs h0
    go_enter Tryd.func8, Tryd.ntmps8
    go_wp2
    go_ret2
    exact ⟨DEnd.no (rdec_len (by rw [len_list]; omega)), Below.refl _ _⟩

end Go.Proofs.YtpncaomghmeneaaDoor
