/- The draw of circuits that the law of the layers takes. -/
import Derived.Test.YtckfklpgnneodaaGreatBaseB12
namespace Go.Proofs.YtckfklpgnneodaaGreat
open Go.RowKit
attribute [local irreducible] World.cell?
set_option maxRecDepth 100000 in
set_option maxHeartbeats 3200000 in
theorem drawCircuitLayers (a0 : Option Addr) (len cap : Nat) (w : World) (hcode : CodeAt w w.heap.size a0 len) :
    Calls Tryz.prog 5 #[.slice a0 len cap] w fun e w' => (∃ n v l, e = .returned (.agg #[.int .i64 n, v]) ∧ CiD 12 n l ∧ gtE.Sl w' w.heap.size v l) ∧ Below w.heap.size w w' := by
  have Hcode := Lib.hid (show CodeAt (w.alloc (.cells #[.int .i64 0, .slice none 0 0] 26)) (w.alloc (.cells #[.int .i64 0, .slice none 0 0] 26)).heap.size a0 len from (hcode.below ((Below.refl _ _).alloc (Nat.le_refl _) (.cells #[.int .i64 0, .slice none 0 0] 26))).mono (by simp))
  have Hr0 := Lib.hid (heap_alloc_new w (.cells #[.int .i64 0, .slice none 0 0] 26))
  clear hcode
  go_enter Tryz.func5, Tryz.ntmps5
  go_wp2_with fail
  refine (new_any a0 len cap _ Hcode.out).mono ?_
  rintro e w1 ⟨rfl, hc1, hb1, hz1⟩
  have hz0 : (w.alloc (.cells #[.int .i64 0, .slice none 0 0] 26)).heap.size = w.heap.size + 1 := by simp
  rw [hz0] at hc1 hz1
  have Hr1 := Lib.hid (below_blk hb1 (lt_of_block Hr0.out) Hr0.out)
  have Hc1 := Lib.hid hc1
  have Hb1 := Lib.hid (below_up (B := w.heap.size) (w := w) (by go_grown) hb1 (by simp))
  have hs1 := hb1.size
  rw [hz0] at hs1
  clear hc1 hb1
  have HG := Lib.hid (bentC (w.heap.size + 1) 12 w1 Hc1.out (by omega) (by omega))
  go_wp2_with fail
  refine HG.out.mono ?_
  rintro e w2 ⟨⟨n, v, l, rfl, hd, hsl⟩, hc2, ho2⟩
  obtain ⟨p, c, rfl, -, -⟩ := id hsl
  have hs2 := ho2.size
  have Hr2 := Lib.hid (own_blk ho2 (by omega) Hr1.out)
  have Hb2 := Lib.hid (below_own Hb1.out ho2 (by omega) (by omega))
  have Hd := Lib.hid hd
  have Hsl := Lib.hid hsl
  clear hc2 ho2 Hc1 Hb1 Hr1 HG hd hsl
  obtain ⟨r0, r1⟩ := blk_cells2 Hr2.out
  have fR := fun o => free_at Hr2.out o
  have hrl := lt_of_block Hr2.out
  go_wp2_with fail
  obtain ⟨k0, k1⟩ := blk_cells2 (set2_at (u0 := .int .i64 n) (u1 := .slice p l.length c) Hr2.out)
  refine bodyPost_ret (v := .agg #[.int .i64 n, .slice p l.length c]) (by simp only [results, Tryz.results5]; simp [go_sem, k0, k1]) rfl ⟨⟨n, _, l, rfl, Hd.out, ?_⟩, ?_⟩
  · exact (sl_set1 (sl_set1 Hsl.out (by omega)) (by omega)).mono (by omega)
  · have := Hb2.out
    go_grown
end Go.Proofs.YtckfklpgnneodaaGreat
