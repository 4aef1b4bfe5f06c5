/- Drawn mails. -/
import Derived.Test.YtjnpohbljjlicabMailTrip
import Derived.Test.YtjnpohbljjlicabFdrawB
import Derived.Test.YtjnpohbljjlicabMailWh
import Derived.Test.YtjnpohbljjlicabMailJoinD
namespace Go.Proofs.Ytjnpohbljjlicab
open Go.RowKit

/-- One of a row of texts that lies in another block. -/
theorem pick_any (cb g k z : Nat) (zs : List ByteArray) (ao : Option Addr) (n cap : Nat) (w : World) (hn : n ≤ 1048576) (hcur : Cur w cb ao n cap) (hcode : Code w cb ao n) (hk : zs.length = k) (hk0 : 0 < k) (hk2 : k ≤ 1000) (hg : g ≠ cb) (hz : ∀ y ∈ zs, y.size ≤ z)
    (hcell : ∀ i (h : i < zs.length), w.cell? ⟨g, i, none⟩ = some (.string zs[i])) :
    Calls Try.prog 73 #[.pointer (some ⟨cb, 0, none⟩), .slice (some ⟨g, 0, none⟩) k k] w fun e w' => ∃ x : ByteArray, x.size ≤ z ∧ e = .returned (.string x) ∧ Cur w' cb ao n cap ∧ w.grownBy w' (some cb) := by
  have HC := hide hcur
  have HO := hide hcode
  have HK := hide hk
  have HZ := hide hz
  have HCELL := hide hcell
  clear hcur hcode hk hcell hz
  go_enter Try.func73, Try.ntmps73
  go_wp2_with fail
  refine (below4 cb ao n cap _ hn (unhide HC) (unhide HO) k (by omega) (by omega)).mono ?_; rintro e w1 ⟨x, hx, rfl, hc1, hb1⟩
  have hxl : x < zs.length := by rw [unhide HK]; omega
  obtain ⟨y, hy⟩ : ∃ y, zs[x] = y := ⟨_, rfl⟩
  have hc : w1.cell? ⟨g, x, none⟩ = some (.string y) := hb1.cell (by rw [← hy]; exact unhide HCELL x hxl) (by simp; omega)
  have HY : Hid (y.size ≤ z) := by show _ ≤ _; rw [← hy]; exact unhide HZ _ (List.getElem_mem _)
  have HC1 := hide hc1
  have hI : (0 : Int) ≤ (x : Int) ∧ (x : Int) < (k : Int) := by omega
  clear hc1 hy
  go_wp2
  go_ret
  exact ⟨y, HY.out, rfl, unhide HC1, hb1⟩

theorem six_texts (w : World) (e : Nat) (a b c d f g : ByteArray) : ∀ i (h : i < [a, b, c, d, f, g].length), (w.alloc (.cells #[.string a, .string b, .string c, .string d, .string f, .string g] e)).cell? ⟨w.heap.size, i, none⟩ = some (.string [a, b, c, d, f, g][i]) := by
  intro i hi
  have h := heap_alloc_new w (.cells #[.string a, .string b, .string c, .string d, .string f, .string g] e)
  have h2 : i = 0 ∨ i = 1 ∨ i = 2 ∨ i = 3 ∨ i = 4 ∨ i = 5 := by simp at hi; omega
  rcases h2 with rfl | rfl | rfl | rfl | rfl | rfl
  · exact cell_of_row _ _ 0 _ _ _ h
  · exact cell_of_row _ _ 1 _ _ _ h
  · exact cell_of_row _ _ 2 _ _ _ h
  · exact cell_of_row _ _ 3 _ _ _ h
  · exact cell_of_row _ _ 4 _ _ _ h
  · exact cell_of_row _ _ 5 _ _ _ h

theorem l05Text_any (cb : Nat) (ao : Option Addr) (n cap : Nat) (w : World) (hn : n ≤ 1048576) (hcur : Cur w cb ao n cap) (hcode : Code w cb ao n) :
    Calls Try.prog 63 #[.pointer (some ⟨cb, 0, none⟩)] w fun e w' => ∃ x : ByteArray, x.size ≤ 20 ∧ e = .returned (.string x) ∧ Cur w' cb ao n cap ∧ w.grownBy w' (some cb) := by
  have hlt := hcur.lt
  have HC := hid hcur
  have HO := hid hcode
  clear hcur hcode
  go_enter Try.func63, Try.ntmps63
  go_wp2_with fail
  refine (pick_any cb w.heap.size 6 20 [⟨#[104, 101, 108, 108, 111]⟩, ⟨#[104, 105, 10]⟩, ⟨#[]⟩, ⟨#[116, 101, 120, 116, 32, 111, 102, 32, 105, 116]⟩, ⟨#[0, 255]⟩, ⟨#[97, 32, 98]⟩] ao n cap _ hn (HC.out.alloc _) (HO.out.later (World.grownBy_alloc _ _ _)) rfl (by decide) (by decide) (by omega) (by decide) (six_texts w _ _ _ _ _ _ _)).mono ?_
  rintro e w1 ⟨x, hx, rfl, hc1, hb1⟩
  have HX := hid hx
  have C1 := hid hc1
  have G1 := hid (grown_push hb1)
  clear hx hc1 hb1
  go_wp2
  go_ret
  exact ⟨x, HX.out, rfl, C1.out, G1.out⟩

set_option maxHeartbeats 800000 in
set_option maxRecDepth 100000 in
theorem l05Mail_any (cb : Nat) (ao : Option Addr) (n cap : Nat) (w : World) (hn : n ≤ 1048576) (hcur : Cur w cb ao n cap) (hcode : Code w cb ao n) :
    Calls Try.prog 41 #[.pointer (some ⟨cb, 0, none⟩)] w fun e w' => ∃ (g u : Int) (v : Value) (l : List R3) (t : ByteArray), e = .returned (.agg #[.int .i64 g, .int .i64 u, v, .string t]) ∧ l.length = 3 ∧ t.size ≤ 20 ∧ Ow w' w.heap.size v l ∧ Cur w' cb ao n cap ∧ w.grownBy w' (some cb) := by
  have hlt := hcur.lt
  have N0 := hid (bpush (bre w) (.cells #[.int .i64 0, .int .i64 0, .slice none 0 0, .string ⟨#[]⟩] 26))
  have M0 := hid (Mg.new w 26 0 0 (.slice none 0 0) ⟨#[]⟩)
  have C0 := hid (hcur.alloc (.cells #[.int .i64 0, .int .i64 0, .slice none 0 0, .string ⟨#[]⟩] 26))
  have O0 := hid (hcode.later (World.grownBy_alloc w (.cells #[.int .i64 0, .int .i64 0, .slice none 0 0, .string ⟨#[]⟩] 26) (some cb)))
  clear hcur hcode
  go_enter Try.func41, Try.ntmps41
  go_wp2_with fail
  refine (below4 cb ao n cap _ hn C0.out O0.out 6 (by decide) (by decide)).mono ?_; rintro e w1 ⟨x, hx, rfl, hc, hg⟩
  have C1 := hid hc
  have G1 := hid (grown_push hg)
  have M1 := hid (M0.out.grown hg (by simp; omega))
  have O1 := hid (O0.out.later hg)
  clear hc hg M0 C0 O0
  go_wp2_with fail
  refine (below4 cb ao n cap _ hn C1.out O1.out 6 (by decide) (by decide)).mono ?_; rintro e w2 ⟨y, hy, rfl, hc, hg⟩
  have C2 := hid hc
  have G2 := hid (only_trans G1.out hg)
  have M2 := hid (M1.out.grown hg (by simp; omega))
  have O2 := hid (O1.out.later hg)
  clear hc hg M1 C1 O1 G1
  go_wp2_with fail
  refine (l04Flags_any cb ao n cap _ hn C2.out O2.out).mono ?_; rintro e w3 ⟨v, l, hl, _, rfl, hown, hc, hg⟩
  obtain ⟨av, cv, hv, _⟩ := Ow.shape hown
  rw [hl] at hv
  subst hv
  have HL := hid hl
  have L2 : Hid (w.heap.size < w2.heap.size) := M2.out.lt
  have C3 := hid hc
  have G3 := hid (only_trans G2.out hg)
  have M3 := hid (M2.out.grown hg (by simp; omega))
  have O3 := hid (O2.out.later hg)
  have OW := hid hown
  clear hl hown hc hg M2 C2 O2 G2
  go_wp2_with fail
  refine (l05Text_any cb ao n cap _ hn C3.out O3.out).mono ?_; rintro e w4 ⟨t, ht, rfl, hc, hg⟩
  have HT := hid ht
  have l2 := L2.out
  have C4 := hid hc
  have G4 := hid (only_trans G3.out hg)
  have M4 := hid (M3.out.grown hg (by simp; omega))
  have OW4 := hid (Ow.keep OW.out hg (by omega))
  have d := M4.out.cells
  have f := M4.out.loose
  clear ht hc hg M3 C3 O3 G3 OW l2
  go_wp2
  have l2 := L2.out
  have d3 := (set4 M4.out (1 + (x : Int)) (1 + (y : Int)) (.slice av 3 cv) t).cells
  refine bodyPost_ret (v := .agg #[.int .i64 (1 + (x : Int)), .int .i64 (1 + (y : Int)), .slice av 3 cv, .string t]) (by simp [results, Try.results41, go_sem, d3]) rfl ⟨_, _, _, l, t, rfl, HL.out, HT.out, ?_, ?_, ?_⟩
  · exact own_base (own4 OW4.out l2 _ _ _ _) (by omega)
  · exact (((C4.out.set (by omega)).set (by omega)).set (by omega)).set (by omega)
  · exact wst_new (wst_new (wst_new (wst_new G4.out (Nat.le_refl _) 0 _) (Nat.le_refl _) 1 _) (Nat.le_refl _) 2 _) (Nat.le_refl _) 3 _
end Go.Proofs.Ytjnpohbljjlicab
