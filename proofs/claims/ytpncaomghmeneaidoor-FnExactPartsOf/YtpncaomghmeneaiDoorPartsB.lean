/- The walk of the program's function that parts a line, and of the law over both. -/
import Derived.Test.YtpncaomghmeneaiDoorPartsA
import Derived.Test.YtpncaomghmeneaiDoorClone
import Derived.Test.YtpncaomghmeneaiDoorFields
namespace Go.Proofs.YtpncaomghmeneaiDoor
open Go.RowKit

/-- How the look at a line's bytes ends. -/
def PlEnd (l : List UInt8) (e : Ending) : Prop :=
  ((∀ c ∈ l, plainC c) ∧ e = .returned (.bool true)) ∨ ((¬ ∀ c ∈ l, plainC c) ∧ e = .returned (.bool false))

set_option maxHeartbeats 400000 in
set_option maxRecDepth 100000 in
theorem plain_any (s : ByteArray) (w : World) (hs : s.size ≤ 1048576) :
    Calls Tryd.prog 14 #[.string s] w fun e w' => PlEnd s.data.toList e ∧ Below w.heap.size w w' := by
  go_enter Tryd.func14, Tryd.ntmps14
  go_wp2
  go_loopw [6] (fun iv wr => ∃ i : Nat, i ≤ s.size ∧ iv = .int .i64 (i : Int) ∧ (∀ c ∈ s.data.toList.take i, plainC c) ∧ Below w.heap.size w wr) (fun iv _ => s.size - (intOf iv).toNat)
  case atStart => exact ⟨0, Nat.zero_le _, rfl, by simp, Below.refl _ _⟩
  case round =>
    obtain ⟨i, hi, rfl, hP, hb⟩ := hrel
    have HPL := hide hP
    clear hP
    by_cases hlt : i < s.size
    · obtain ⟨c, hcx⟩ : ∃ c : Nat, s[i].toNat = c := ⟨_, rfl⟩
      have hcb : c < 256 := by rw [← hcx]; exact s[i].toNat_lt
      have HC := hide hcx
      by_cases hp : 32 ≤ c ∧ c ≤ 126
      · have HP : Hid (plainC s[i]) := by show 32 ≤ s[i].toNat ∧ s[i].toNat ≤ 126; rw [unhide HC]; exact hp
        go_wp2
        go_roundw
        case rel =>
          refine ⟨i + 1, hlt, by go_num, ?_, hb⟩
          rw [take_here s i hlt]
          intro x hx
          rcases List.mem_append.1 hx with hx | hx
          · exact unhide HPL x hx
          · simp at hx; subst hx; exact unhide HP
        case measure => simp [intOf]; omega
      · have HNO : Hid (¬ ∀ c ∈ s.data.toList, plainC c) := by
          show ¬ ∀ c ∈ s.data.toList, plainC c
          intro h
          have hm : s[i] ∈ s.data.toList := List.mem_of_mem_drop (i := i) (by rw [drop_here s i hlt]; simp)
          have := h _ hm
          unfold plainC at this
          rw [unhide HC] at this
          exact hp this
        by_cases hp1 : c < 32
        all_goals
          go_wp2
          go_ret
          exact ⟨.inr ⟨unhide HNO, rfl⟩, hb⟩
    · have HY : Hid (∀ c ∈ s.data.toList, plainC c) := by
        have := unhide HPL
        rw [List.take_of_length_le (by rw [len_list]; omega)] at this
        exact this
      go_wp2
      go_ret
      exact ⟨.inl ⟨unhide HY, rfl⟩, hb⟩

theorem gSpace : Tryd.prog.globalNamed "strings.asciiSpace" = some 0 := by kernel_rfl

theorem space_later {w w1 : World} (hb : Below w.heap.size w w1) (htab : Lib.TabIs Tryd.prog w "strings.asciiSpace" .u8 Lib.asciiSpaceTab) : Lib.TabIs Tryd.prog w1 "strings.asciiSpace" .u8 Lib.asciiSpaceTab := by
  have hc := htab.cell gSpace 0 (by rw [Lib.asciiSpaceTab_length]; decide)
  exact var?_below hb gSpace (World.block_lt_of_cell? _ _ hc) htab

/-- How the program's function ends. -/
def IEnd (l : List UInt8) (B : Nat) (e : Ending) (w' : World) : Prop :=
  (okLine l ∧ ∃ g, B ≤ g ∧ e = .returned (.tuple #[.slice (some ⟨g, 0, none⟩) (Lib.fields l).length (Lib.fields l).length, .bool true]) ∧ w'.ownsRow B 9 1 (.slice (some ⟨g, 0, none⟩) (Lib.fields l).length (Lib.fields l).length) (Lib.fields l).length ((Lib.fields l).map sv)) ∨
  (¬ okLine l ∧ e = .returned (.tuple #[.slice none 0 0, .bool false]))

theorem fields_le (l : List UInt8) : (Lib.fields l).length ≤ l.length + 1 := by
  unfold Lib.fields
  have h : ∀ (l cur : List UInt8), (Lib.fieldsGo cur l).length ≤ l.length + 1 := by
    intro l
    induction l with
    | nil => intro cur; simp only [Lib.fieldsGo]; split <;> simp
    | cons b l ih =>
      intro cur
      simp only [Lib.fieldsGo]
      split
      · split
        · have := ih []; simp; omega
        · have := ih []; simp; omega
      · have := ih (cur ++ [b]); simp; omega
  exact h l []

set_option maxHeartbeats 400000 in
theorem implParts_any (s : ByteArray) (w : World) (hs : s.size ≤ 1048576) (htab : Lib.TabIs Tryd.prog w "strings.asciiSpace" .u8 Lib.asciiSpaceTab) :
    Calls Tryd.prog 8 #[.string s] w fun e w' => IEnd s.data.toList w.heap.size e w' ∧ Below w.heap.size w w' := by
  have HT := hide htab
  clear htab
  by_cases h6 : s.size ≤ 600
  · by_cases hpl : ∀ c ∈ s.data.toList, plainC c
    · have HPL := hide hpl
      have HAS : Hid (∀ (j : Nat) b, s.data.toList[j]? = some b → b.toNat < 128) := by
        intro j b hj
        have := hpl b (List.mem_of_getElem? hj)
        unfold plainC at this
        omega
      have hfl := fields_le s.data.toList
      rw [len_list] at hfl
      obtain ⟨n, hn⟩ : ∃ n, (Lib.fields s.data.toList).length = n := ⟨_, rfl⟩
      rw [hn] at hfl
      have HN := hide hn
      have hpb : ∀ W : World, Calls Tryd.prog 14 #[.string s] W fun e w' => e = .returned (.bool true) ∧ Below W.heap.size W w' := fun W =>
        (plain_any s W hs).mono fun e w' h => by
          rcases h.1 with h1 | h1
          · exact ⟨h1.2, h.2⟩
          · exact absurd (unhide HPL) h1.1
      have HPB := hide hpb
      have hfi : ∀ W : World, Lib.TabIs Tryd.prog W "strings.asciiSpace" .u8 Lib.asciiSpaceTab → Calls Tryd.prog 15 #[.string s] W fun e w' => e = .returned (.slice (some ⟨W.heap.size, 0, none⟩) n n) ∧ w'.ownsRow W.heap.size 9 1 (.slice (some ⟨W.heap.size, 0, none⟩) n n) n ((Lib.fields s.data.toList).map sv) ∧ Below W.heap.size W w' := fun W hW => by
        refine (Tryd.strings_Fields_laid s W (by omega) (unhide HAS) hW).mono ?_
        rintro e w' ⟨rfl, rfl⟩
        rw [hn]
        have hl := World.ownsRow_lit (base := W.heap.size) (e := 9) (size := 1) W ((Lib.fields s.data.toList).map fun l => Value.string ⟨l.toArray⟩).toArray n (Nat.le_refl _) (by unfold maxLen; omega) (by simp [hn])
        have e1 : sv = fun l => Value.string ⟨l.toArray⟩ := rfl
        exact ⟨rfl, by rw [e1]; simpa using hl, (Below.refl _ _).alloc (Nat.le_refl _) _⟩
      have HFI := hide hfi
      clear hpl hn hpb hfi
      by_cases h10 : n ≤ 10
      · have HOK : Hid (okLine s.data.toList) := ⟨by rw [len_list]; exact h6, unhide HPL, by rw [unhide HN]; exact h10⟩
        go_enter Tryd.func8, Tryd.ntmps8
        go_wp2_with fail
        refine (unhide HPB _).mono ?_; rintro e w1 ⟨rfl, hb1⟩
        go_wp2_with fail
        refine (clone_any s _ hs).mono ?_; rintro e w2 ⟨rfl, hb2⟩
        have hb12 := hb1.trans (hb2.mono hb1.size)
        go_wp2_with fail
        refine (unhide HFI _ (space_later hb12 (unhide HT))).mono ?_; rintro e w3 ⟨rfl, hown, hb3⟩
        go_wp2
        go_ret2
        exact ⟨.inl ⟨unhide HOK, w2.heap.size, hb12.size, by rw [unhide HN]; rfl, by rw [unhide HN]; exact own_base hown hb12.size⟩, hb12.trans (hb3.mono hb12.size)⟩
      · have HNO : Hid (¬ okLine s.data.toList) := by show ¬ okLine s.data.toList; intro h; have := h.2.2; rw [unhide HN] at this; exact h10 this
        go_enter Tryd.func8, Tryd.ntmps8
        go_wp2_with fail
        refine (unhide HPB _).mono ?_; rintro e w1 ⟨rfl, hb1⟩
        go_wp2_with fail
        refine (clone_any s _ hs).mono ?_; rintro e w2 ⟨rfl, hb2⟩
        have hb12 := hb1.trans (hb2.mono hb1.size)
        go_wp2_with fail
        refine (unhide HFI _ (space_later hb12 (unhide HT))).mono ?_; rintro e w3 ⟨rfl, hown, hb3⟩
        go_wp2
        go_ret2
        exact ⟨.inr ⟨unhide HNO, rfl⟩, hb12.trans (hb3.mono hb12.size)⟩
    · have HNO : Hid (¬ okLine s.data.toList) := fun h => hpl h.2.1
      have hpb : ∀ W : World, Calls Tryd.prog 14 #[.string s] W fun e w' => e = .returned (.bool false) ∧ Below W.heap.size W w' := fun W =>
        (plain_any s W hs).mono fun e w' h => by
          rcases h.1 with h1 | h1
          · exact absurd h1.1 hpl
          · exact ⟨h1.2, h.2⟩
      have HPB := hide hpb
      clear hpl hpb
      go_enter Tryd.func8, Tryd.ntmps8
      go_wp2_with fail
      refine (unhide HPB _).mono ?_; rintro e w1 ⟨rfl, hb1⟩
      go_wp2
      go_ret2
      exact ⟨.inr ⟨unhide HNO, rfl⟩, hb1⟩
  · have HNO : Hid (¬ okLine s.data.toList) := by show ¬ okLine s.data.toList; intro h; have := h.1; rw [len_list] at this; exact h6 this
    go_enter Tryd.func8, Tryd.ntmps8
    go_wp2
    go_ret2
    exact ⟨.inr ⟨unhide HNO, rfl⟩, Below.refl _ _⟩
end Go.Proofs.YtpncaomghmeneaiDoor
