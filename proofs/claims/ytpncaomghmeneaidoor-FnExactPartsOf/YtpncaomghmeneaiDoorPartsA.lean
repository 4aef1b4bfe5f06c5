/- The parts of a line: the plain part, and the walk of the model's function. -/
import Derived.Test.YtpncaomghmeneaiDoorStrs
import Derived.Lib.Fields
namespace Go.Proofs.YtpncaomghmeneaiDoor
open Go.RowKit

theorem len_list (s : ByteArray) : s.data.toList.length = s.size := Array.length_toList
theorem drop_here (s : ByteArray) (j : Nat) (h : j < s.size) : s.data.toList.drop j = s[j] :: s.data.toList.drop (j + 1) := by
  rw [List.drop_eq_getElem_cons (by rw [len_list]; exact h)]; rfl
theorem take_here (s : ByteArray) (k : Nat) (h : k < s.size) : s.data.toList.take (k + 1) = s.data.toList.take k ++ [s[k]] := by
  rw [List.take_succ_eq_append_getElem (by rw [len_list]; exact h)]; rfl
theorem mid_here (s : ByteArray) (b i : Nat) (hb : b ≤ i) (h : i < s.size) : (s.data.toList.drop b).take (i + 1 - b) = (s.data.toList.drop b).take (i - b) ++ [s[i]] := by
  rw [show i + 1 - b = (i - b) + 1 by omega, List.take_succ_eq_append_getElem (by rw [List.length_drop, len_list]; omega)]
  congr 2
  rw [List.getElem_drop]
  have e : s.data.toList[i]'(by rw [len_list]; exact h) = s[i] := rfl
  rw [← e]
  congr 1
  omega
theorem extract_mid (s : ByteArray) (b i : Nat) : s.extract b i = ⟨((s.data.toList.drop b).take (i - b)).toArray⟩ := by
  apply ByteArray.ext
  rw [ByteArray.data_extract]
  apply Array.toList_inj.1
  simp

def plainC (c : UInt8) : Prop := 32 ≤ c.toNat ∧ c.toNat ≤ 126

theorem sp_blank (c : UInt8) (h : c.toNat = 32) : Lib.isSp c = true := by
  have : c = 32 := UInt8.toNat_inj.1 (by simpa using h)
  subst this; rfl
theorem sp_not (c : UInt8) (h : plainC c) (h2 : c.toNat ≠ 32) : Lib.isSp c = false := by
  unfold plainC at h
  have e : ∀ k : UInt8, c = k → c.toNat = k.toNat := fun k hk => by rw [hk]
  unfold Lib.isSp
  simp only [Bool.or_eq_false_iff, beq_eq_false_iff_ne]
  refine ⟨⟨⟨⟨⟨?_, ?_⟩, ?_⟩, ?_⟩, ?_⟩, ?_⟩ <;> (intro hk; have := e _ hk; simp at this; omega)

/-- i bytes have been looked at, a part begins at b, the parts ahead of it are outs. -/
def SAt (s : ByteArray) (b i : Nat) (outs : List (List UInt8)) : Prop :=
  (∀ c ∈ s.data.toList.take i, plainC c) ∧ outs.length ≤ i ∧
  ((i ≤ s.size ∧ b ≤ i ∧ outs ++ Lib.fieldsGo ((s.data.toList.drop b).take (i - b)) (s.data.toList.drop i) = Lib.fields s.data.toList) ∨ (i = s.size + 1 ∧ outs = Lib.fields s.data.toList))

theorem SAt.start (s : ByteArray) : SAt s 0 0 [] := ⟨by simp, by simp, .inl ⟨Nat.zero_le _, Nat.le_refl _, by simp [Lib.fields]⟩⟩
theorem SAt.plain {s : ByteArray} {b i : Nat} {outs : List (List UInt8)} (h : SAt s b i outs) (hi : i < s.size) (hp : plainC s[i]) : ∀ c ∈ s.data.toList.take (i + 1), plainC c := by
  rw [take_here s i hi]
  intro c hc
  rcases List.mem_append.1 hc with hc | hc
  · exact h.1 c hc
  · simp at hc; subst hc; exact hp
theorem SAt.here {s : ByteArray} {b i : Nat} {outs : List (List UInt8)} (h : SAt s b i outs) (hi : i ≤ s.size) : b ≤ i ∧ outs ++ Lib.fieldsGo ((s.data.toList.drop b).take (i - b)) (s.data.toList.drop i) = Lib.fields s.data.toList := by
  rcases h.2.2 with h | h
  · exact h.2
  · omega
theorem SAt.char {s : ByteArray} {b i : Nat} {outs : List (List UInt8)} (h : SAt s b i outs) (hi : i < s.size) (hp : plainC s[i]) (hc : s[i].toNat ≠ 32) : SAt s b (i + 1) outs := by
  have hh := h.here (by omega)
  refine ⟨h.plain hi hp, by have := h.2.1; omega, .inl ⟨hi, by omega, ?_⟩⟩
  rw [← hh.2, drop_here s i hi, mid_here s b i hh.1 hi]
  simp only [Lib.fieldsGo, sp_not _ hp hc, Bool.false_eq_true, if_false]
theorem SAt.blankEmpty {s : ByteArray} {b i : Nat} {outs : List (List UInt8)} (h : SAt s b i outs) (hi : i < s.size) (hp : plainC s[i]) (hc : s[i].toNat = 32) (hb : ¬ b < i) : SAt s (i + 1) (i + 1) outs := by
  have hh := h.here (by omega)
  refine ⟨h.plain hi hp, by have := h.2.1; omega, .inl ⟨hi, by omega, ?_⟩⟩
  rw [← hh.2, drop_here s i hi, show i - b = 0 by omega]
  simp [Lib.fieldsGo, sp_blank _ hc]
theorem mid_ne (s : ByteArray) (b i : Nat) (hb : b < i) (hi : i ≤ s.size) : ((s.data.toList.drop b).take (i - b)).isEmpty = false := by
  cases h : (s.data.toList.drop b).take (i - b) with
  | nil => have := congrArg List.length h; rw [List.length_take, List.length_drop, len_list] at this; simp at this; omega
  | cons a l => rfl
theorem SAt.blankFull {s : ByteArray} {b i : Nat} {outs : List (List UInt8)} (h : SAt s b i outs) (hi : i < s.size) (hp : plainC s[i]) (hc : s[i].toNat = 32) (hb : b < i) : SAt s (i + 1) (i + 1) (outs ++ [(s.data.toList.drop b).take (i - b)]) := by
  have hh := h.here (by omega)
  refine ⟨h.plain hi hp, by have := h.2.1; simp; omega, .inl ⟨hi, by omega, ?_⟩⟩
  rw [← hh.2, drop_here s i hi]
  simp [Lib.fieldsGo, sp_blank _ hc, mid_ne s b i hb (by omega)]
theorem SAt.endEmpty {s : ByteArray} {b i : Nat} {outs : List (List UInt8)} (h : SAt s b i outs) (hi : i = s.size) (hb : ¬ b < i) : SAt s (i + 1) (i + 1) outs := by
  have hh := h.here (by omega)
  refine ⟨?_, by have := h.2.1; omega, .inr ⟨by omega, ?_⟩⟩
  · rw [List.take_of_length_le (by rw [len_list]; omega)]; have := h.1; rw [List.take_of_length_le (by rw [len_list]; omega)] at this; exact this
  · rw [← hh.2, show i - b = 0 by omega, List.drop_eq_nil_of_le (by rw [len_list]; omega : s.data.toList.length ≤ i)]
    simp [Lib.fieldsGo]
theorem SAt.endFull {s : ByteArray} {b i : Nat} {outs : List (List UInt8)} (h : SAt s b i outs) (hi : i = s.size) (hb : b < i) : SAt s (i + 1) (i + 1) (outs ++ [(s.data.toList.drop b).take (i - b)]) := by
  have hh := h.here (by omega)
  refine ⟨?_, by have := h.2.1; simp; omega, .inr ⟨by omega, ?_⟩⟩
  · rw [List.take_of_length_le (by rw [len_list]; omega)]; have := h.1; rw [List.take_of_length_le (by rw [len_list]; omega)] at this; exact this
  · rw [← hh.2, List.drop_eq_nil_of_le (by rw [len_list]; omega : s.data.toList.length ≤ i)]
    simp [Lib.fieldsGo, mid_ne s b i hb (by omega)]
theorem SAt.fin {s : ByteArray} {b i : Nat} {outs : List (List UInt8)} (h : SAt s b i outs) (hi : ¬ i ≤ s.size) : (∀ c ∈ s.data.toList, plainC c) ∧ outs = Lib.fields s.data.toList := by
  rcases h.2.2 with h' | h'
  · omega
  · refine ⟨?_, h'.2⟩
    have := h.1
    rw [List.take_of_length_le (by rw [len_list]; omega)] at this
    exact this

theorem slice_shape {w : World} {B e size n : Nat} {v : Value} {xs : List Value} (h : w.ownsRow B e size v n xs) : ∃ ao cap, v = .slice ao n cap := by
  rcases h.2 with ⟨h1, h2⟩ | ⟨g, cap, _, h1, _⟩
  · exact ⟨none, 0, by rw [h1, h2]⟩
  · exact ⟨_, cap, h1⟩

/-- The line is taken: short, plain, not too many parts. -/
def okLine (l : List UInt8) : Prop := l.length ≤ 600 ∧ (∀ c ∈ l, plainC c) ∧ (Lib.fields l).length ≤ 10

/-- How a call ends: the parts in a row of its own and true, or no part and false. -/
def PEnd (l : List UInt8) (B : Nat) (e : Ending) (w' : World) : Prop :=
  (okLine l ∧ ∃ v, e = .returned (.tuple #[v, .bool true]) ∧ w'.ownsRow B 9 1 v (Lib.fields l).length ((Lib.fields l).map sv)) ∨
  (¬ okLine l ∧ ∃ v, e = .returned (.tuple #[v, .bool false]) ∧ w'.ownsRow B 9 1 v 0 [])

set_option maxHeartbeats 1000000 in
set_option maxRecDepth 100000 in
theorem specParts_any (s : ByteArray) (w : World) (hs : s.size ≤ 1048576) :
    Calls Tryd.prog 7 #[.string s] w fun e w' => PEnd s.data.toList w.heap.size e w' ∧ Below w.heap.size w w' := by
  by_cases h6 : s.size ≤ 600
  · go_enter Tryd.func7, Tryd.ntmps7
    go_wp2
    go_loopw [4, 5, 6] (fun v bv' iv wr => ∃ (b i : Nat) (outs : List (List UInt8)), bv' = .int .i64 (b : Int) ∧ iv = .int .i64 (i : Int) ∧ i ≤ s.size + 1 ∧ SAt s b i outs ∧ wr.ownsRow w.heap.size 9 1 v outs.length (outs.map sv) ∧ Below w.heap.size w wr)
      (fun _ _ iv _ => s.size + 1 - (intOf iv).toNat)
    case atStart => exact ⟨0, 0, [], rfl, rfl, by omega, SAt.start s, World.ownsRow_made w #[] 0 (Nat.le_refl _) (by decide) rfl, (Below.refl _ _).alloc (Nat.le_refl _) _⟩
    case round =>
      obtain ⟨b, i, outs, rfl, rfl, hi1, hS, hown, hnx⟩ := hrel
      have hol := hS.2.1
      have HS := hide hS
      clear hS
      have hsz := hnx.size
      by_cases hle : i ≤ s.size
      · have hbi := ((unhide HS).here hle).1
        by_cases hlt : i < s.size
        · obtain ⟨c, hcx⟩ : ∃ c : Nat, s[i].toNat = c := ⟨_, rfl⟩
          have hcb : c < 256 := by rw [← hcx]; exact s[i].toNat_lt
          have HC := hide hcx
          have hI : (0 : Int) ≤ (i : Int) ∧ (i : Int) < (s.size : Int) := by omega
          by_cases hp : 32 ≤ c ∧ c ≤ 126
          · have HP : Hid (plainC s[i]) := by show 32 ≤ s[i].toNat ∧ s[i].toNat ≤ 126; rw [unhide HC]; exact hp
            by_cases h32 : c = 32
            · have h32' : ((c : Int) != 32) = false := by simp; omega
              have H32 : Hid (s[i].toNat = 32) := by show s[i].toNat = 32; rw [unhide HC]; exact h32
              clear h32
              by_cases hb : b < i
              · go_wp2_with (at_builtin; refine wpList_append_str wr rfl (.tmp 48) (.tmp 53) 24 rfl w.heap.size 9 Tryd.info9 Tryd.underlying24 _ outs (by rfl) hown _ ((s.data.toList.drop b).take (i - b)) (extract_mid s b i) rfl (by omega) hsz ?_; intro v1 w1 hown1 hb1)
                go_roundw
                case rel => exact ⟨i + 1, i + 1, outs ++ [(s.data.toList.drop b).take (i - b)], by go_num, by go_num, by omega, (unhide HS).blankFull hlt (unhide HP) (unhide H32) hb, hown1, hnx.trans hb1⟩
                case measure => simp [intOf]; omega
              · go_wp2
                go_roundw
                case rel => exact ⟨i + 1, i + 1, outs, by go_num, by go_num, by omega, (unhide HS).blankEmpty hlt (unhide HP) (unhide H32) hb, hown, hnx⟩
                case measure => simp [intOf]; omega
            · have h32' : ((c : Int) != 32) = true := by simp; omega
              have H32 : Hid (s[i].toNat ≠ 32) := by show s[i].toNat ≠ 32; rw [unhide HC]; exact h32
              clear h32
              go_wp2
              go_roundw
              case rel => exact ⟨b, i + 1, outs, rfl, by go_num, by omega, (unhide HS).char hlt (unhide HP) (unhide H32), hown, hnx⟩
              case measure => simp [intOf]; omega
          · have HNO : Hid (¬ okLine s.data.toList) := by
              show ¬ okLine s.data.toList
              intro h
              have hm : s[i] ∈ s.data.toList := List.mem_of_mem_drop (i := i) (by rw [drop_here s i hlt]; simp)
              have := h.2.1 _ hm
              unfold plainC at this
              rw [unhide HC] at this
              exact hp this
            by_cases hp1 : c < 32
            all_goals
              go_wp2
              go_ret2
              exact ⟨.inr ⟨unhide HNO, _, rfl, World.ownsRow_made wr #[] 0 hsz (by decide) rfl⟩, hnx.alloc hsz _⟩
        · have hie : i = s.size := by omega
          have HIE := hide hie
          clear hie
          by_cases hb : b < i
          · go_wp2_with (at_builtin; refine wpList_append_str wr rfl (.tmp 48) (.tmp 53) 24 rfl w.heap.size 9 Tryd.info9 Tryd.underlying24 _ outs (by rfl) hown _ ((s.data.toList.drop b).take (i - b)) (extract_mid s b i) rfl (by omega) hsz ?_; intro v1 w1 hown1 hb1)
            go_roundw
            case rel => exact ⟨i + 1, i + 1, outs ++ [(s.data.toList.drop b).take (i - b)], by go_num, by go_num, by omega, (unhide HS).endFull (unhide HIE) hb, hown1, hnx.trans hb1⟩
            case measure => simp [intOf]; omega
          · go_wp2
            go_roundw
            case rel => exact ⟨i + 1, i + 1, outs, by go_num, by go_num, by omega, (unhide HS).endEmpty (unhide HIE) hb, hown, hnx⟩
            case measure => simp [intOf]; omega
      · have hF := (unhide HS).fin hle
        have HF := hide hF
        clear hF
        obtain ⟨ao, cp, hv⟩ := slice_shape hown
        subst hv
        by_cases h10 : outs.length ≤ 10
        · have HOK : Hid (okLine s.data.toList) := ⟨by rw [len_list]; exact h6, (unhide HF).1, by rw [← (unhide HF).2]; exact h10⟩
          go_wp2
          go_ret2
          exact ⟨.inl ⟨unhide HOK, _, rfl, by rw [← (unhide HF).2]; exact hown⟩, hnx⟩
        · have HNO : Hid (¬ okLine s.data.toList) := by show ¬ okLine s.data.toList; intro h; have := h.2.2; rw [← (unhide HF).2] at this; exact h10 this
          go_wp2
          go_ret2
          exact ⟨.inr ⟨unhide HNO, _, rfl, World.ownsRow_made wr #[] 0 hsz (by decide) rfl⟩, hnx.alloc hsz _⟩
  · have HNO : Hid (¬ okLine s.data.toList) := by show ¬ okLine s.data.toList; intro h; have := h.1; rw [len_list] at this; exact h6 this
    go_enter Tryd.func7, Tryd.ntmps7
    go_wp2
    go_ret2
    exact ⟨.inr ⟨unhide HNO, _, rfl, World.ownsRow_made w #[] 0 (Nat.le_refl _) (by decide) rfl⟩, (Below.refl _ _).alloc (Nat.le_refl _) _⟩
end Go.Proofs.YtpncaomghmeneaiDoor
