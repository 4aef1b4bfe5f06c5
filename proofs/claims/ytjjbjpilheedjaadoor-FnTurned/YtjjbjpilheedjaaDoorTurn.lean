/- What a sealed text with one byte turned is: never sealed. -/
import Derived.Test.YtjjbjpilheedjaaDoorSeal
namespace Go.Proofs.YtjjbjpilheedjaaDoor

theorem bytes_of {a b : ByteArray} (h : a.data.toList = b.data.toList) : a = b := ByteArray.ext (Array.toList_inj.mp h)
theorem list_cut (b : ByteArray) (i j : Nat) : (b.extract i j).data.toList = (b.data.toList.drop i).take (j - i) := by
  rw [ByteArray.data_extract, Array.toList_extract, List.extract_eq_take_drop]
theorem list_of (l : List UInt8) : (⟨l.toArray⟩ : ByteArray).data.toList = l := by simp
theorem size_of (l : List UInt8) : (⟨l.toArray⟩ : ByteArray).size = l.length := by simp [ByteArray.size]

/-- The bytes of a sealed text. -/
def sealL (bs : List UInt8) : List UInt8 := bs ++ f4 (smore 4294967295 bs)
theorem sealL_len (bs : List UInt8) : (sealL bs).length = bs.length + 4 := by simp [sealL, f4_len]

theorem seal_app (bs : List UInt8) : (⟨bs.toArray⟩ : ByteArray) ++ tail4 ⟨bs.toArray⟩ = ⟨(sealL bs).toArray⟩ := by
  apply bytes_of
  rw [ByteArray.data_append, Array.toList_append, list_of, list_of]
  unfold tail4 sof sealL
  rw [list_of]

theorem seal_front (bs : List UInt8) : (⟨(sealL bs).toArray⟩ : ByteArray).extract 0 bs.length = ⟨bs.toArray⟩ := by
  apply bytes_of
  rw [list_cut, list_of, list_of]
  simp [sealL]
theorem seal_back (bs : List UInt8) : (⟨(sealL bs).toArray⟩ : ByteArray).extract bs.length (⟨(sealL bs).toArray⟩ : ByteArray).size = tail4 ⟨bs.toArray⟩ := by
  apply bytes_of
  rw [size_of, sealL_len, list_cut, list_of]
  unfold tail4 sof sealL
  rw [list_of, list_of]
  simp
  rfl

/-- One byte of a sealed text is another: it is not sealed. -/
theorem seal_turned (bs : List UInt8) (i : Nat) (x : UInt8) (hi : i < (sealL bs).length) (hx : x ≠ (sealL bs)[i]) :
    tail4 ((⟨((sealL bs).set i x).toArray⟩ : ByteArray).extract 0 bs.length) ≠ (⟨((sealL bs).set i x).toArray⟩ : ByteArray).extract bs.length (⟨((sealL bs).set i x).toArray⟩ : ByteArray).size := by
  intro h
  have h2 := congrArg (fun b : ByteArray => b.data.toList) h
  simp only [tail4, sof, list_cut, size_of, List.length_set, sealL_len, List.drop_zero, Nat.sub_zero] at h2
  by_cases hn : i < bs.length
  · have e1 : ((sealL bs).set i x).take bs.length = bs.set i x := by
      rw [List.take_set]; simp [sealL]
    have e2 : (((sealL bs).set i x).drop bs.length).take (bs.length + 4 - bs.length) = f4 (smore 4294967295 bs) := by
      rw [List.drop_set_of_lt hn, show bs.length + 4 - bs.length = 4 from by omega]
      simp [sealL]
      rfl
    rw [e1, e2] at h2
    have h3 := f4_inj (smore_lt _ (by decide)) (smore_lt _ (by decide)) h2
    have hb : bs = bs.take i ++ bs[i] :: bs.drop (i + 1) := by simp
    have hs : bs.set i x = bs.take i ++ x :: bs.drop (i + 1) := by rw [List.set_eq_take_append_cons_drop, if_pos hn]
    have hne : x ≠ bs[i] := by
      intro e; apply hx; rw [e]; simp [sealL, List.getElem_append_left hn]
    rw [hs] at h3
    rw [show smore 4294967295 bs = smore 4294967295 (bs.take i ++ bs[i] :: bs.drop (i + 1)) from by rw [← hb]] at h3
    exact smore_turn (by decide) _ _ hne h3
  · have e1 : ((sealL bs).set i x).take bs.length = bs := by
      rw [List.take_set_of_le (by omega)]; simp [sealL]
    rw [e1] at h2
    have h3 := congrArg (·[i - bs.length]?) h2
    have hi' : i < bs.length + 4 := by rw [← sealL_len]; exact hi
    simp only [List.getElem?_take, List.getElem?_drop, show bs.length + (i - bs.length) = i from by omega, show i - bs.length < bs.length + 4 - bs.length from by omega, if_true] at h3
    rw [List.getElem?_set_self hi] at h3
    apply hx
    have h4 : (sealL bs)[i]? = some x := by
      rw [← h3, sealL, List.getElem?_append_right (by omega)]
    rw [List.getElem?_eq_getElem hi] at h4
    exact (Option.some.inj h4).symm

theorem smore_x (bs : List UInt8) : smore (smore 4294967295 bs) [120] = smore 4294967295 (bs ++ [120]) := (smore_append _ _ _).symm
theorem xor_ne (c d : Nat) (hd : 0 < d) : c ^^^ d ≠ c := by
  intro h
  have h2 : c ^^^ d = c ^^^ 0 := by rw [h, Nat.xor_zero]
  have := xor_can' h2
  omega
end Go.Proofs.YtjjbjpilheedjaaDoor
