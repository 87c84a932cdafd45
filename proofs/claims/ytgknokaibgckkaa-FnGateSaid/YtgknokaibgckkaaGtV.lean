/- The draw of a gate and a number of qubits. -/
import Derived.Test.YtgknokaibgckkaaGtF
namespace Go.Proofs.Ytgknokaibgckkaa
open Go.RowKit
attribute [local irreducible] World.cell?
set_option maxRecDepth 100000 in
set_option maxHeartbeats 3200000 in
theorem drawVg (a0 : Option Addr) (len cap : Nat) (w : World) (hcode : CodeAt w w.heap.size a0 len) :
    Calls Try.prog 11 #[.slice a0 len cap] w fun e w' => (∃ g n, e = .returned (.tuple #[(.agg #[.int .i64 g.k, .int .i64 g.a, .int .i64 g.b, .int .i64 g.c]), .int .i64 n]) ∧ GtI g ∧ -9223372036854775808 ≤ n ∧ n ≤ 9223372036854775807) ∧ Below w.heap.size w w' := by
  have Hcode := Lib.hid (show CodeAt (w.alloc (.cells #[.int .i64 0, .int .i64 0, .int .i64 0, .int .i64 0] 25)) (w.alloc (.cells #[.int .i64 0, .int .i64 0, .int .i64 0, .int .i64 0] 25)).heap.size a0 len from (hcode.below ((Below.refl _ _).alloc (Nat.le_refl _) (.cells #[.int .i64 0, .int .i64 0, .int .i64 0, .int .i64 0] 25))).mono (by simp))
  have Hr0 := Lib.hid (heap_alloc_new w (.cells #[.int .i64 0, .int .i64 0, .int .i64 0, .int .i64 0] 25))
  clear hcode
  go_enter Try.func11, Try.ntmps11
  go_wp2_with fail
  refine (new_any a0 len cap _ Hcode.out).mono ?_
  rintro e w1 ⟨rfl, hc1, hb1, hz1⟩
  have hz0 : (w.alloc (.cells #[.int .i64 0, .int .i64 0, .int .i64 0, .int .i64 0] 25)).heap.size = w.heap.size + 1 := by simp
  rw [hz0] at hc1 hz1
  have Hr1 := Lib.hid (below_blk hb1 (lt_of_block Hr0.out) Hr0.out)
  have Hc1 := Lib.hid hc1
  have Hb1 := Lib.hid (below_up (B := w.heap.size) (w := w) (by go_grown) hb1 (by simp))
  have hs1 := hb1.size
  rw [hz0] at hs1
  clear hc1 hb1
  go_wp2_with fail
  refine (below_any (w.heap.size + 1) 4 _ Hc1.out (by omega) (by omega)).mono ?_
  rintro e w2 ⟨⟨x, x0, x1, rfl⟩, hc2, ho2⟩
  obtain ⟨k, rfl⟩ : ∃ k : Nat, x = k := ⟨x.toNat, by omega⟩
  have hs2 := ho2.size
  have Hr2 := Lib.hid (own_blk ho2 (by omega) Hr1.out)
  have Hc2 := Lib.hid hc2
  have Hb2 := Lib.hid (below_own Hb1.out ho2 (by omega) (by omega))
  clear hc2 ho2 Hc1 Hb1
  have HG := bentG (w.heap.size + 1) (1 + k) w2 Hc2.out (by omega) (by omega) (by omega)
  rw [show ((1 + k : Nat) : Int) = 1 + (k : Int) by simp] at HG
  have HG := Lib.hid HG
  go_wp2_with fail
  refine HG.out.mono ?_
  rintro e w3 ⟨⟨g, rfl, hgi⟩, hc3, ho3⟩
  clear HG
  have hs3 := ho3.size
  have Hr3 := Lib.hid (alloc_blk (.cells #[.int .i64 g.k, .int .i64 g.a, .int .i64 g.b, .int .i64 g.c] 25) (own_blk ho3 (by omega) Hr2.out))
  have HG3 := Lib.hid (heap_alloc_new w3 (.cells #[.int .i64 g.k, .int .i64 g.a, .int .i64 g.b, .int .i64 g.c] 25))
  have Hc3 := Lib.hid (hc3.below (w' := w3.alloc (.cells #[.int .i64 g.k, .int .i64 g.a, .int .i64 g.b, .int .i64 g.c] 25)) (C := w3.heap.size) (by go_grown) (by omega))
  have Hb3 := Lib.hid ((below_own Hb2.out ho3 (by omega) (by omega)).alloc (by omega) (.cells #[.int .i64 g.k, .int .i64 g.a, .int .i64 g.b, .int .i64 g.c] 25))
  clear hc3 ho3 Hc2 Hb2 Hr2
  go_wp2_with fail
  refine (once_any (w.heap.size + 1) 8 _ Hc3.out (by omega) (by omega)).mono ?_
  rintro e w4 ⟨⟨t, rfl⟩, hc4, ho4⟩
  have hz3 : (w3.alloc (.cells #[.int .i64 g.k, .int .i64 g.a, .int .i64 g.b, .int .i64 g.c] 25)).heap.size = w3.heap.size + 1 := by simp
  have hs4 := ho4.size
  simp at hs4
  have Hc4 := Lib.hid hc4
  have Hb4 := Lib.hid (below_own Hb3.out ho4 (by omega) (by omega))
  have Hr4 := Lib.hid (own_blk ho4 (by omega) Hr3.out)
  have HG4 := Lib.hid (own_blk (g := w3.heap.size) ho4 (by omega) HG3.out)
  clear hc4 ho4 Hc3 Hb3 Hr3 HG3
  cases t with
  | false =>
    obtain ⟨a0', a1, a2, a3⟩ := blk_cells HG4.out
    obtain ⟨r0, r1, r2, r3⟩ := blk_cells Hr4.out
    have fG := fun o => free_at HG4.out o
    have fR := fun o => free_at Hr4.out o
    have hrl := lt_of_block Hr4.out
    have hgl := lt_of_block HG4.out
    go_wp2_with fail
    obtain ⟨k0', k1', k2', k3'⟩ := blk_cells (set4_at (u0 := .int .i64 g.k) (u1 := .int .i64 g.a) (u2 := .int .i64 g.b) (u3 := .int .i64 g.c) Hr4.out)
    refine bodyPost_ret (v := .tuple #[(.agg #[.int .i64 g.k, .int .i64 g.a, .int .i64 g.b, .int .i64 g.c]), .int .i64 (1 + (k : Int))]) (by simp only [results, Try.results11]; simp [go_sem, k0', k1', k2', k3']) rfl ⟨⟨g, 1 + (k : Int), rfl, hgi, by omega, by omega⟩, ?_⟩
    have := Hb4.out
    go_grown
  | true =>
    have hz4 : (w4.alloc (.cells #[.int .i64 0, .int .i64 5, .int .i64 (-1)] 3)).heap.size = w4.heap.size + 1 := by simp
    have Hc5 := Lib.hid (Hc4.out.below (w' := w4.alloc (.cells #[.int .i64 0, .int .i64 5, .int .i64 (-1)] 3)) (C := w4.heap.size) (by go_grown) (by omega))
    have Hl5 := Lib.hid (show ListAt (w4.alloc (.cells #[.int .i64 0, .int .i64 5, .int .i64 (-1)] 3)) w4.heap.size 3 (fun j => .int .i64 (([0, 5, -1] : List Int).getD j 0)) from fun j hj => by
      have hb := heap_alloc_new w4 (.cells #[.int .i64 0, .int .i64 5, .int .i64 (-1)] 3)
      rcases (show j = 0 ∨ j = 1 ∨ j = 2 by omega) with rfl | rfl | rfl <;> exact cell_at hb _ _ rfl)
    have Hr5 := Lib.hid (alloc_blk (.cells #[.int .i64 0, .int .i64 5, .int .i64 (-1)] 3) Hr4.out)
    have HG5 := Lib.hid (alloc_blk (.cells #[.int .i64 0, .int .i64 5, .int .i64 (-1)] 3) HG4.out)
    have Hb5 := Lib.hid (Hb4.out.alloc (by omega) (.cells #[.int .i64 0, .int .i64 5, .int .i64 (-1)] 3))
    clear Hc4 Hb4 Hr4 HG4
    go_wp2_with fail
    refine (pickInt_any (w.heap.size + 1) w4.heap.size 3 _ (fun j => ([0, 5, -1] : List Int).getD j 0) _ Hc5.out Hl5.out (by omega) (by omega) (by omega)).mono ?_
    rintro e w6 ⟨⟨q, hq, rfl⟩, hc6, ho6⟩
    have hs6 := ho6.size
    obtain ⟨z, hz⟩ : ∃ z, ([0, 5, -1] : List Int).getD q 0 = z := ⟨_, rfl⟩
    have hzi : -9223372036854775808 ≤ z ∧ z ≤ 9223372036854775807 := by
      rcases (show q = 0 ∨ q = 1 ∨ q = 2 by omega) with rfl | rfl | rfl <;> simp at hz <;> omega
    simp only [hz]
    have Hr6 := Lib.hid (own_blk ho6 (by omega) Hr5.out)
    have HG6 := Lib.hid (own_blk (g := w3.heap.size) ho6 (by omega) HG5.out)
    have Hb6 := Lib.hid (below_own Hb5.out ho6 (by omega) (by omega))
    clear hc6 ho6 Hc5 Hl5 Hr5 HG5 Hb5
    obtain ⟨a0', a1, a2, a3⟩ := blk_cells HG6.out
    obtain ⟨r0, r1, r2, r3⟩ := blk_cells Hr6.out
    have fG := fun o => free_at HG6.out o
    have fR := fun o => free_at Hr6.out o
    have hrl := lt_of_block Hr6.out
    have hgl := lt_of_block HG6.out
    go_wp2_with fail
    obtain ⟨k0', k1', k2', k3'⟩ := blk_cells (set4_at (u0 := .int .i64 g.k) (u1 := .int .i64 g.a) (u2 := .int .i64 g.b) (u3 := .int .i64 g.c) Hr6.out)
    refine bodyPost_ret (v := .tuple #[(.agg #[.int .i64 g.k, .int .i64 g.a, .int .i64 g.b, .int .i64 g.c]), .int .i64 z]) (by simp only [results, Try.results11]; simp [go_sem, k0', k1', k2', k3']) rfl ⟨⟨g, z, rfl, hgi, hzi.1, hzi.2⟩, ?_⟩
    have := Hb6.out
    go_grown
end Go.Proofs.Ytgknokaibgckkaa
