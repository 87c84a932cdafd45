/- spec.DrawSplitByte: some short string and some byte. -/
import Derived.Test.YtlbgkdkgembkkaaDoorDraw1b
namespace Go.Proofs.YtlbgkdkgembkkaaDoor
open Go.RowKit
def words2 : List (List UInt8) := [[], [97], [97, 44, 98], [44], [97, 44, 44, 98, 44], [97, 10, 98, 10]]
theorem words2_len : ∀ j, j < 6 → (words2.getD j []).length ≤ 21 := by decide
set_option maxRecDepth 100000 in
set_option maxHeartbeats 400000 in
theorem drawSplitByte_any (a0 : Option Addr) (len cap : Nat) (w : World) (hcode : CodeAt w w.heap.size a0 len) :
    Calls Tryd.prog 16 #[.slice a0 len cap] w fun e w' => (∃ (l : List UInt8) (c : UInt8), l.length ≤ 21 ∧ e = .returned (.tuple #[.string ⟨l.toArray⟩, .int .u8 c.toNat])) ∧ Below w.heap.size w w' := by
  have Hc := Lib.hid hcode
  clear hcode
  go_enter Tryd.func16, Tryd.ntmps16
  go_wp2_with fail
  refine (new_any a0 len cap _ Hc.out).mono ?_
  rintro e w1 ⟨rfl, hc1, hb1, hB1⟩
  have Hc1 := Lib.hid hc1
  clear hc1
  go_wp2_with fail
  refine (pick_any w.heap.size w1.heap.size 6 _ (fun j => ⟨(words2.getD j []).toArray⟩) _ (Hc1.out.own (own_alloc (own_refl w1.heap.size _) _) hB1) ?_ (by omega) (by omega) (by omega)).mono ?_
  · refine list_at (heap_alloc_new _ _) 6 _ ?_
    intro j hj
    rcases (show j = 0 ∨ j = 1 ∨ j = 2 ∨ j = 3 ∨ j = 4 ∨ j = 5 by omega) with rfl | rfl | rfl | rfl | rfl | rfl <;> rfl
  rintro e w2 ⟨⟨j, hj, rfl⟩, hc2, ho2⟩
  have hB2 : w.heap.size < w2.heap.size := by have := ho2.size; simp at this; omega
  have Hc2 := Lib.hid hc2
  have Ho2 := Lib.hid ho2
  clear hc2 ho2
  go_wp2_with fail
  refine (pickInt_any w.heap.size w2.heap.size 2 _ (fun j => [(44 : Int), 10].getD j 0) _ (Hc2.out.own (own_alloc (own_refl w2.heap.size _) _) hB2) ?_ (by omega) (by omega) (by omega)).mono ?_
  · refine list_at (heap_alloc_new _ _) 2 _ ?_
    intro j hj
    rcases (show j = 0 ∨ j = 1 by omega) with rfl | rfl <;> rfl
  rintro e w3 ⟨⟨i, hi, rfl⟩, hc3, ho3⟩
  have Ho3 := Lib.hid ho3
  clear hc3 ho3
  have hx : Below w.heap.size w w3 := own_below (own_below (hb1.alloc (by omega) _) Ho2.out (by simp; omega) |>.alloc (by omega) _) Ho3.out (by simp; omega)
  rcases (show i = 0 ∨ i = 1 by omega) with rfl | rfl
  · go_wp2_with fail
    go_ret2
    exact ⟨⟨_, 44, words2_len j hj, rfl⟩, hx⟩
  · go_wp2_with fail
    go_ret2
    exact ⟨⟨_, 10, words2_len j hj, rfl⟩, hx⟩
end Go.Proofs.YtlbgkdkgembkkaaDoor
