/- BaseB18: several of our texts in one: CdP CiD CiKg. -/
import Derived.Test.YtmpafidkpangeaaGreatCiM
import Derived.Test.YtmpafidkpangeaaGreatCiN
import Derived.Test.YtmpafidkpangeaaGreatCiB
import Derived.Test.YtmpafidkpangeaaGreatBaseB17
import Derived.Test.YtmpafidkpangeaaGreatBaseB24
import Derived.Test.YtmpafidkpangeaaGreatBaseB19
import Derived.Test.YtmpafidkpangeaaGreatBaseB12
import Derived.Test.YtmpafidkpangeaaGreatBaseB16
namespace Go.Proofs.YtmpafidkpangeaaGreat
theorem ccM_eb (n : Int) (L : List Gt) : EbM (ccM n L) := by
  unfold ccM
  split
  · exact fun r hr => Ok.eb (cirM_row r hr).1
  · exact fun r hr => absurd hr List.not_mem_nil
theorem ccB_parts {n : Int} {L : List Gt} (h : ccB n L = true) : ciB n L = true ∧ cirB L n.toNat = true ∧ ccM n L = cirM L n.toNat := by
  unfold ccB at h
  rw [Bool.and_eq_true] at h
  exact ⟨h.1, h.2, if_pos h.1⟩
theorem law_unitary {m : Nat} {n : Int} {L : List Gt} (hd : CiD m n L) (hm : m ≤ 13) (h : ccB n L = true) : uniB (ccM n L) = true := by
  obtain ⟨k1, k2, k3⟩ := ccB_parts h
  obtain ⟨h1, hn, -⟩ := ciB_parts k1
  rw [k3]
  exact cir_unitary (by omega) (by omega) (fun g hg => by rw [show ((n.toNat : Nat) : Int) = n by omega]; exact h1 g hg) k2 (by have := hd.2.2.2; omega)
end Go.Proofs.YtmpafidkpangeaaGreat
namespace Go.Proofs.YtmpafidkpangeaaGreat
open Go.RowKit
attribute [local irreducible] World.cell?
set_option maxRecDepth 100000 in
set_option maxHeartbeats 3200000 in
theorem drawCircuitMatrix (a0 : Option Addr) (len cap : Nat) (w : World) (hcode : CodeAt w w.heap.size a0 len) :
    Calls Tryz.prog 8 #[.slice a0 len cap] w fun e w' => (∃ n v l, e = .returned (.agg #[.int .i64 n, v]) ∧ CiD 12 n l ∧ gtE.Sl w' w.heap.size v l) ∧ Below w.heap.size w w' := by
  have Hcode := Lib.hid (show CodeAt (w.alloc (.cells #[.int .i64 0, .slice none 0 0] 26)) (w.alloc (.cells #[.int .i64 0, .slice none 0 0] 26)).heap.size a0 len from (hcode.below ((Below.refl _ _).alloc (Nat.le_refl _) (.cells #[.int .i64 0, .slice none 0 0] 26))).mono (by simp))
  have Hr0 := Lib.hid (heap_alloc_new w (.cells #[.int .i64 0, .slice none 0 0] 26))
  clear hcode
  go_enter Tryz.func8, Tryz.ntmps8
  go_wp2_with fail
  refine (new_any a0 len cap _ Hcode.out).mono ?_
  rintro e w1 ⟨rfl, hc1, hb1, hz1⟩
  have hz0 : (w.alloc (.cells #[.int .i64 0, .slice none 0 0] 26)).heap.size = w.heap.size + 1 := by simp
  rw [hz0] at hc1 hz1
  have Hr1 := Lib.hid (below_blk hb1 (lt_of_block Hr0.out) Hr0.out)
  have Hc1 := Lib.hid hc1
  have Hb1 := Lib.hid (below_up (B := w.heap.size) (w := w) (by go_grown) hb1 (by simp))
  have hs1 := hb1.size
  rw [hz0] at hs1
  clear hc1 hb1
  have HG := Lib.hid (bentC (w.heap.size + 1) 12 w1 Hc1.out (by omega) (by omega))
  go_wp2_with fail
  refine HG.out.mono ?_
  rintro e w2 ⟨⟨n, v, l, rfl, hd, hsl⟩, hc2, ho2⟩
  obtain ⟨p, c, rfl, -, -⟩ := id hsl
  have hs2 := ho2.size
  have Hr2 := Lib.hid (own_blk ho2 (by omega) Hr1.out)
  have Hb2 := Lib.hid (below_own Hb1.out ho2 (by omega) (by omega))
  have Hd := Lib.hid hd
  have Hsl := Lib.hid hsl
  clear hc2 ho2 Hc1 Hb1 Hr1 HG hd hsl
  obtain ⟨r0, r1⟩ := blk_cells2 Hr2.out
  have fR := fun o => free_at Hr2.out o
  have hrl := lt_of_block Hr2.out
  go_wp2_with fail
  obtain ⟨k0, k1⟩ := blk_cells2 (set2_at (u0 := .int .i64 n) (u1 := .slice p l.length c) Hr2.out)
  refine bodyPost_ret (v := .agg #[.int .i64 n, .slice p l.length c]) (by simp only [results, Tryz.results8]; simp [go_sem, k0, k1]) rfl ⟨⟨n, _, l, rfl, Hd.out, ?_⟩, ?_⟩
  · exact (sl_set1 (sl_set1 Hsl.out (by omega)) (by omega)).mono (by omega)
  · have := Hb2.out
    go_grown
end Go.Proofs.YtmpafidkpangeaaGreat
namespace Go.Proofs.YtmpafidkpangeaaGreat
open Go.RowKit
attribute [local irreducible] World.cell?
end Go.Proofs.YtmpafidkpangeaaGreat
