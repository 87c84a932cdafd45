/- The draws of amplitudes and of their texts. -/
import Derived.Test.YtgicldokglpimaaTxF
import Derived.Test.YtgicldokglpimaaBaseB06
import Derived.Test.YtgicldokglpimaaDraw1p
namespace Go.Proofs.Ytgicldokglpimaa
open Go.RowKit
theorem ListAt.drew {w : World} {b n : Nat} {f : Nat → Value} (h : ListAt w b n f) : ListAt w.drew b n f := h
theorem own_drew1 {B : Nat} {a w : World} (h : Own B a w) : Own B a w.drew := own_trans h ⟨rfl, rfl, rfl, Nat.le_refl _, fun _ _ _ => rfl⟩
theorem cat3 {k : Nat} {s t : ByteArray} (hk : k ≤ s.size) (hm : s.size ≤ 1000) (ht : t.size ≤ 10) : min k s.size = k ∧ ¬ 9223372036854775807 < k + t.size ∧ ¬ 9223372036854775807 < k + t.size + (s.size - k) ∧
    (s.extract 0 k ++ t).size + (s.extract k s.size).size ≤ 9223372036854775807 ∧ ¬ 9223372036854775807 < (s.extract 0 k ++ t).size + (s.extract k s.size).size ∧ (s.extract 0 k).size + t.size + (s.extract k s.size).size ≤ 9223372036854775807 ∧
    k + t.size + (s.size - k) ≤ 9223372036854775807 ∧ min k s.size + t.size + (s.size - k) ≤ 9223372036854775807 ∧ k + t.size ≤ 9223372036854775807 := by
  simp only [ByteArray.size_append, ByteArray.size_extract]
  omega
theorem szle_drew {w W : World} (h : w.heap.size ≤ W.heap.size) : w.heap.size ≤ W.drew.heap.size := h
attribute [local irreducible] World.cell?
def TRet (e : Ending) : Prop := ∃ t : ByteArray, e = .returned (.string t) ∧ t.size ≤ 1048576
theorem tret (t : ByteArray) (h : t.size ≤ 1048576) : TRet (.returned (.string t)) := ⟨t, rfl, h⟩
theorem pickT (B b n cap : Nat) (f : Nat → ByteArray) (w : World) (hcur : CurAt w B) (hl : ListAt w b n (fun j => .string (f j))) (hne : b ≠ B) (h1 : 1 ≤ n) (h2 : n ≤ 1000000) (hf : ∀ j, j < n → (f j).size ≤ 10) :
    Calls Try.prog 44 #[.pointer (some ⟨B, 0, none⟩), .slice (some ⟨b, 0, none⟩) n cap] w fun e w' => (∃ t : ByteArray, t.size ≤ 10 ∧ e = .returned (.string t)) ∧ CurAt w' B ∧ Own B w w' := by
  refine (pick_any B b n cap f w hcur hl hne h1 h2).mono ?_
  rintro e w1 ⟨⟨j, hj, rfl⟩, hc, ho⟩
  exact ⟨⟨f j, hf j hj, rfl⟩, hc, ho⟩
set_option maxRecDepth 100000 in
set_option maxHeartbeats 1600000 in
theorem turned_any (B b n cap : Nat) (f : Nat → ByteArray) (s : ByteArray) (w : World) (hcur : CurAt w B) (_ : B < w.heap.size) (hl : ListAt w b n (fun j => .string (f j))) (hne : b ≠ B) (h1 : 1 ≤ n) (h2 : n ≤ 1000000) (hf : ∀ j, j < n → (f j).size ≤ 10) (hs : s.size ≤ 1000) :
    Calls Try.prog 37 #[.pointer (some ⟨B, 0, none⟩), .string s, .slice (some ⟨b, 0, none⟩) n cap] w fun e w' => TRet e ∧ CurAt w' B ∧ Own B w w' := by
  have Hc0 := Lib.hid hcur
  have Hl0 := Lib.hid hl
  have Hf := Lib.hid hf
  have hsz : (s.size : Int) + 1 ≤ 1001 := by omega
  have hs0 : (0 : Int) ≤ s.size := by omega
  clear hcur hl hf
  go_enter Try.func37, Try.ntmps37
  go_wp2_with fail
  refine (below_any B ((s.size : Int) + 1) _ Hc0.out (by omega) (by omega)).mono ?_
  rintro e w1 ⟨⟨k, k0, k1, rfl⟩, hc1, ho1⟩
  obtain ⟨k, rfl⟩ := Int.eq_ofNat_of_zero_le k0
  have hk : k ≤ s.size := by omega
  have Hc1 := Lib.hid hc1
  have Hl1 := Lib.hid (Hl0.out.own ho1 hne)
  have Ho1 := Lib.hid ho1
  clear hc1 ho1 k0 k1
  go_wp2_with fail
  refine (below_any B 6 _ Hc1.out (by omega) (by omega)).mono ?_
  rintro e w2 ⟨⟨m, m0, m1, rfl⟩, hc2, ho2⟩
  have Hc2 := Lib.hid hc2
  have Hl2 := Lib.hid (Hl1.out.own ho2 hne)
  have Ho2 := Lib.hid (own_trans Ho1.out ho2)
  clear hc2 ho2
  have hki : (k : Int) ≤ s.size := by omega
  have hk0 : (0 : Int) ≤ k := by omega
  rcases (show m = 0 ∨ m = 1 ∨ 2 ≤ m by omega) with rfl | rfl | hm
  · go_upto_region 4 with fail
    have hw2 := Ho2.out.size
    go_region_held3 (fun w' => w.heap.size ≤ w'.heap.size) (first | (show _ ≤ _; exact szle_drew hw2) | (show _ ≤ _; exact Nat.le_trans hw2 hoR.size))
      (first | (go_at_call 44; refine (pickT B b n cap f _ (CurAt.drew Hc2.out) (ListAt.drew Hl2.out) hne h1 h2 Hf.out).mono ?_; rintro e wR ⟨⟨t, ht, rfl⟩, hcR, hoR⟩; obtain ⟨q0, q1, q2, q3, q4, q5, q6, q7, q8⟩ := cat3 hk hs ht))
    all_goals go_wp2_with fail
    all_goals go_ret
    all_goals exact ⟨tret _ (by rw [ByteArray.size_append, ByteArray.size_append, ByteArray.size_extract, ByteArray.size_extract]; omega), hcR, own_trans (own_drew1 Ho2.out) hoR⟩
  · go_wp2_with fail
    go_ret
    exact ⟨tret _ (by rw [ByteArray.size_extract]; omega), Hc2.out, Ho2.out⟩
  · have hm0 : (m == 0) = false := by simp; omega
    have hm1 : (m == 1) = false := by simp; omega
    have hm2 : decide (m = 0) = false := by simp; omega
    have hm3 : decide (m = 1) = false := by simp; omega
    go_wp2_with fail
    go_ret
    exact ⟨tret _ (by omega), Hc2.out, Ho2.out⟩
end Go.Proofs.Ytgicldokglpimaa
