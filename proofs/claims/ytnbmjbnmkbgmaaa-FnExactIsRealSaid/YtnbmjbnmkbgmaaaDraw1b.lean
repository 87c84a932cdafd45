/- The first chapter's draws. -/
import Derived.Test.YtnbmjbnmkbgmaaaDraw1p
import Derived.Test.YtnbmjbnmkbgmaaaFmt
import Derived.Test.YtnbmjbnmkbgmaaaDigits
namespace Go.Proofs.Ytnbmjbnmkbgmaaa
open Go.RowKit
/-- The cells of a block read as a list. -/
theorem list_at {w : World} {b : Nat} {cs : Array Value} {t : TypeId} (h : w.heap[b]? = some (.cells cs t (0, 0))) (n : Nat) (f : Nat → Value) (hf : ∀ j, j < n → cs[j]? = some (f j)) : ListAt w b n f := fun j hj => cell_at h j _ (hf j hj)
/-- The list of l1Whole. -/
def wholes : List Int := [0, 1, -1, 9, 10, 999999, 1000000, 999999999999, 1000000000000, -999999999999, 9223372036854775807, -9223372036854775808]
theorem wholes_bd : ∀ j, j < 12 → -9223372036854775808 ≤ wholes.getD j 0 ∧ wholes.getD j 0 ≤ 9223372036854775807 := by decide
set_option maxRecDepth 100000 in
set_option maxHeartbeats 400000 in
theorem whole_any (B : Nat) (w : World) (hcur : CurAt w B) (hB : B < w.heap.size) :
    Calls Try.prog 23 #[.pointer (some ⟨B, 0, none⟩)] w fun e w' => (∃ x : Int, -9223372036854775808 ≤ x ∧ x ≤ 9223372036854775807 ∧ e = .returned (.int .i64 x)) ∧ CurAt w' B ∧ Own B w w' := by
  have Hc := Lib.hid hcur
  clear hcur
  go_enter Try.func23, Try.ntmps23
  go_wp2_with fail
  refine (below_any B 3 _ Hc.out (by omega) (by omega)).mono ?_
  rintro e w1 ⟨⟨x, x0, x1, rfl⟩, hc1, ho1⟩
  have hB1 : B < w1.heap.size := Nat.lt_of_lt_of_le hB ho1.size
  have Hc1 := Lib.hid hc1
  have Ho1 := Lib.hid ho1
  clear hc1 ho1
  rcases (show x = 0 ∨ x = 1 ∨ x = 2 by omega) with rfl | rfl | rfl
  · go_wp2_with fail
    refine (pickInt_any B w1.heap.size 12 _ (fun j => wholes.getD j 0) _ (Hc1.out.own (own_alloc (own_refl w1.heap.size _) _) hB1) ?_ (by omega) (by omega) (by omega)).mono ?_
    · refine list_at (heap_alloc_new _ _) 12 _ ?_
      intro j hj
      rcases (show j = 0 ∨ j = 1 ∨ j = 2 ∨ j = 3 ∨ j = 4 ∨ j = 5 ∨ j = 6 ∨ j = 7 ∨ j = 8 ∨ j = 9 ∨ j = 10 ∨ j = 11 by omega) with rfl | rfl | rfl | rfl | rfl | rfl | rfl | rfl | rfl | rfl | rfl | rfl <;> rfl
    rintro e w2 ⟨⟨j, hj, rfl⟩, hc2, ho2⟩
    have Hc2 := Lib.hid hc2
    have Ho2 := Lib.hid ho2
    clear hc2 ho2
    go_wp2_with fail
    go_ret
    exact ⟨⟨_, (wholes_bd j hj).1, (wholes_bd j hj).2, rfl⟩, Hc2.out, own_trans (own_alloc Ho1.out _) Ho2.out⟩
  · go_wp2_with fail
    refine (below_any B 1000000 _ Hc1.out (by omega) (by omega)).mono ?_
    rintro e w2 ⟨⟨x, x0, x1, rfl⟩, hc2, ho2⟩
    have Hc2 := Lib.hid hc2
    have Ho2 := Lib.hid ho2
    clear hc2 ho2
    go_wp2_with fail
    go_ret
    exact ⟨⟨x - 500000, by omega, by omega, rfl⟩, Hc2.out, own_trans Ho1.out Ho2.out⟩
  · go_wp2_with fail
    refine (below_any B 20 _ Hc1.out (by omega) (by omega)).mono ?_
    rintro e w2 ⟨⟨x, x0, x1, rfl⟩, hc2, ho2⟩
    have Hc2 := Lib.hid hc2
    have Ho2 := Lib.hid ho2
    clear hc2 ho2
    go_wp2_with fail
    go_ret
    exact ⟨⟨x, by omega, by omega, rfl⟩, Hc2.out, own_trans Ho1.out Ho2.out⟩
/-- The list of DrawParseNumber. -/
def words1 : List (List UInt8) := [[], [48, 48], [48, 49], [45, 49], [43, 49], [120], [57, 57, 57, 57, 57, 57], [49, 48, 48, 48, 48, 48, 48], [45, 48], [45], [32, 49], [49, 32]]
theorem words1_len : ∀ j, j < 12 → (words1.getD j []).length ≤ 21 := by decide
end Go.Proofs.Ytnbmjbnmkbgmaaa
