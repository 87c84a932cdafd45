/- The draw of a state and a fraction. -/
import Derived.Test.YtbohbhhgmglcdaaDsG
namespace Go.Proofs.Ytbohbhhgmglcdaa
open Go.RowKit
attribute [local irreducible] World.cell?
set_option maxRecDepth 100000 in
set_option maxHeartbeats 3200000 in
theorem drawScale (a0 : Option Addr) (len cap : Nat) (w : World) (hcode : CodeAt w w.heap.size a0 len) :
    Calls Try.prog 28 #[.slice a0 len cap] w fun e w' => (∃ (u : Value) (a : List Dw) (x : Dw), e = .returned (.tuple #[u, (.agg #[.int .i64 x.n.a, .int .i64 x.n.b, .int .i64 x.n.c, .int .i64 x.n.d, .int .i64 x.e])]) ∧ List.length a ≤ 8 ∧ Eb a ∧ (-9223372036854775808 ≤ x.e ∧ x.e ≤ 9223372036854775807) ∧ DSl w' w.heap.size u a) ∧ Below w.heap.size w w' := by
  have Hcode := Lib.hid (show CodeAt (w.alloc (.cells #[.int .i64 0, .int .i64 0, .int .i64 0, .int .i64 0, .int .i64 0] 33)) (w.alloc (.cells #[.int .i64 0, .int .i64 0, .int .i64 0, .int .i64 0, .int .i64 0] 33)).heap.size a0 len from (hcode.below ((Below.refl _ _).alloc (Nat.le_refl _) (.cells #[.int .i64 0, .int .i64 0, .int .i64 0, .int .i64 0, .int .i64 0] 33))).mono (by simp))
  have Hr0 := Lib.hid (heap_alloc_new w (.cells #[.int .i64 0, .int .i64 0, .int .i64 0, .int .i64 0, .int .i64 0] 33))
  clear hcode
  go_enter Try.func28, Try.ntmps28
  go_wp2_with fail
  refine (new_any a0 len cap _ Hcode.out).mono ?_
  rintro e w1 ⟨rfl, hc1, hb1, hz1⟩
  have hz0 : (w.alloc (.cells #[.int .i64 0, .int .i64 0, .int .i64 0, .int .i64 0, .int .i64 0] 33)).heap.size = w.heap.size + 1 := by simp
  rw [hz0] at hc1 hz1
  have Hr1 := Lib.hid (below_blk hb1 (lt_of_block Hr0.out) Hr0.out)
  have Hc1 := Lib.hid hc1
  have Hb1 := Lib.hid (below_up (B := w.heap.size) (w := w) (by go_grown) hb1 (by simp))
  have hs1 := hb1.size
  rw [hz0] at hs1
  clear hc1 hb1
  go_wp2_with fail
  refine (bentS (w.heap.size + 1) _ Hc1.out hz1).mono ?_
  rintro e w2 ⟨⟨u, a, rfl, ha, ea, hd⟩, hc2, ho2⟩
  have hs2 := ho2.size
  have Hr2 := Lib.hid (own_blk ho2 (by omega) Hr1.out)
  have Hd := Lib.hid hd
  have Hc2 := Lib.hid hc2
  have Hb2 := Lib.hid (below_own Hb1.out ho2 (by omega) (by omega))
  clear hd hc2 ho2 Hc1 Hb1
  go_wp2_with fail
  refine (bent_any (w.heap.size + 1) _ Hc2.out (by omega)).mono ?_
  rintro e w3 ⟨⟨x, rfl, xe⟩, hc3, ho3⟩
  have hs3 := ho3.size
  have Hr3 := Lib.hid (own_blk ho3 (by omega) Hr2.out)
  have Hd3 := Lib.hid (Hd.out.own ho3 (by omega))
  have Hb3 := Lib.hid (below_own Hb2.out ho3 (by omega) (by omega))
  clear hc3 ho3 Hc2 Hb2 Hd
  obtain ⟨e0, e1, e2, e3, e4⟩ := blk_cells5 Hr3.out
  have f1 := fun o => free_at Hr3.out o
  have hrl := lt_of_block Hr3.out
  go_wp2_with fail
  obtain ⟨k0, k1, k2, k3, k4⟩ := blk_cells5 (set5_at (u0 := .int .i64 x.n.a) (u1 := .int .i64 x.n.b) (u2 := .int .i64 x.n.c) (u3 := .int .i64 x.n.d) (u4 := .int .i64 x.e) Hr3.out)
  refine bodyPost_ret (v := .tuple #[u, (.agg #[.int .i64 x.n.a, .int .i64 x.n.b, .int .i64 x.n.c, .int .i64 x.n.d, .int .i64 x.e])]) (by simp only [results, Try.results28]; simp [go_sem, k0, k1, k2, k3, k4]) rfl ⟨⟨u, a, x, rfl, ha, ea, xe, ?_⟩, ?_⟩
  · refine DSl.mono (B := w1.heap.size) (Hd3.out.block fun q hq _ => ?_) (by omega)
    rw [Below.heap_setCell _ _ _ _ (by show q ≠ w.heap.size; omega), Below.heap_setCell _ _ _ _ (by show q ≠ w.heap.size; omega), Below.heap_setCell _ _ _ _ (by show q ≠ w.heap.size; omega), Below.heap_setCell _ _ _ _ (by show q ≠ w.heap.size; omega), Below.heap_setCell _ _ _ _ (by show q ≠ w.heap.size; omega)]
  · have := Hb3.out
    go_grown
end Go.Proofs.Ytbohbhhgmglcdaa
