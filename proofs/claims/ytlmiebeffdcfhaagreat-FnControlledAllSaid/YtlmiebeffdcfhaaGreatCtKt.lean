/- The program's controlledTurn. -/
import Derived.Test.YtlmiebeffdcfhaaGreatBaseC05
namespace Go.Proofs.YtlmiebeffdcfhaaGreat
open Go.RowKit
/-- Two gates' boxes in a drawn region. -/
def GB2 (w : World) (B C : Nat) (g h : Gt) (w' : World) : Prop := w'.cell? ⟨B, 0, none⟩ = some (.int .i64 g.k) ∧ w'.cell? ⟨B, 1, none⟩ = some (.int .i64 g.a) ∧ w'.cell? ⟨B, 2, none⟩ = some (.int .i64 g.b) ∧ w'.cell? ⟨B, 3, none⟩ = some (.int .i64 g.c) ∧ w'.cell? ⟨C, 0, none⟩ = some (.int .i64 h.k) ∧ w'.cell? ⟨C, 1, none⟩ = some (.int .i64 h.a) ∧ w'.cell? ⟨C, 2, none⟩ = some (.int .i64 h.b) ∧ w'.cell? ⟨C, 3, none⟩ = some (.int .i64 h.c) ∧ B < w'.heap.size ∧ C < w'.heap.size ∧ Below w.heap.size w w'
theorem GB2.drew {w w1 : World} {B C : Nat} {g h : Gt} (k : GB2 w B C g h w1) : GB2 w B C g h w1.drew :=
  let ⟨c0, c1, c2, c3, d0, d1, d2, d3, z, y, l⟩ := k; ⟨c0, c1, c2, c3, d0, d1, d2, d3, z, y, l.drew⟩
theorem GB2.below {w w1 w2 : World} {B C : Nat} {g h : Gt} (k : GB2 w B C g h w1) (hb : Below w1.heap.size w1 w2) : GB2 w B C g h w2 :=
  let ⟨c0, c1, c2, c3, d0, d1, d2, d3, z, y, l⟩ := k; ⟨cell_below c0 hb z, cell_below c1 hb z, cell_below c2 hb z, cell_below c3 hb z, cell_below d0 hb y, cell_below d1 hb y, cell_below d2 hb y, cell_below d3 hb y, Nat.lt_of_lt_of_le z hb.size, Nat.lt_of_lt_of_le y hb.size, below_up l hb l.size⟩
theorem GB2.alloc {w w1 : World} {B C : Nat} {g h : Gt} {o : Obj} (k : GB2 w B C g h w1) : GB2 w B C g h (w1.alloc o) :=
  let ⟨c0, c1, c2, c3, d0, d1, d2, d3, z, y, l⟩ := k
  have e : ∀ b k, b < w1.heap.size → (w1.alloc o).cell? ⟨b, k, none⟩ = w1.cell? ⟨b, k, none⟩ := fun b k z0 => (Below.refl w1.heap.size w1).alloc (Nat.le_refl _) o |>.cell (by exact z0)
  ⟨(e B 0 z).trans c0, (e B 1 z).trans c1, (e B 2 z).trans c2, (e B 3 z).trans c3, (e C 0 y).trans d0, (e C 1 y).trans d1, (e C 2 y).trans d2, (e C 3 y).trans d3, by simp; omega, by simp; omega, l.alloc l.size o⟩
attribute [local irreducible] World.cell?
set_option maxRecDepth 100000 in
set_option maxHeartbeats 3200000 in
theorem iturn (h q a : Int) (w : World) :
    Calls Tryz.prog 68 #[.int .i64 h, .int .i64 q, .int .i64 a] w fun e w' => ∃ r, e = .returned r ∧ gtE.Sl w' w.heap.size r [⟨h, q, 0, 0⟩, ⟨h, a, 0, 0⟩, ⟨9, q, a, 0⟩, ⟨invK h, a, 0, 0⟩, ⟨9, q, a, 0⟩] ∧ Below w.heap.size w w' := by
  have HX := Lib.hid (alloc_blk (.cells #[.int .i64 9, .int .i64 q, .int .i64 a, .int .i64 0] 25) (heap_alloc_new w (.cells #[.int .i64 h, .int .i64 a, .int .i64 0, .int .i64 0] 25)))
  have HY := Lib.hid (show ((w.alloc (.cells #[.int .i64 h, .int .i64 a, .int .i64 0, .int .i64 0] 25)).alloc (.cells #[.int .i64 9, .int .i64 q, .int .i64 a, .int .i64 0] 25)).heap[w.heap.size + 1]? = some (.cells #[.int .i64 9, .int .i64 q, .int .i64 a, .int .i64 0] 25 (0, 0)) by
    simpa using heap_alloc_new (w.alloc (.cells #[.int .i64 h, .int .i64 a, .int .i64 0, .int .i64 0] 25)) (.cells #[.int .i64 9, .int .i64 q, .int .i64 a, .int .i64 0] 25))
  have Hb := Lib.hid (show Below w.heap.size w ((w.alloc (.cells #[.int .i64 h, .int .i64 a, .int .i64 0, .int .i64 0] 25)).alloc (.cells #[.int .i64 9, .int .i64 q, .int .i64 a, .int .i64 0] 25)) by go_grown)
  have Hi := Lib.hid (fun W => iinvG ⟨h, a, 0, 0⟩ W)
  rw [show invG ⟨h, a, 0, 0⟩ = ⟨invK h, a, 0, 0⟩ from rfl] at Hi
  obtain ⟨x0, x1, x2, x3⟩ := blk_cells HX.out
  obtain ⟨y0, y1, y2, y3⟩ := blk_cells HY.out
  have hxl := lt_of_block HX.out
  have hyl := lt_of_block HY.out
  generalize invK h = i at *
  go_enter Tryz.func68, Tryz.ntmps68
  go_upto_region 3 with fail
  obtain ⟨W0, hW0⟩ : ∃ W0, (w.alloc (.cells #[.int .i64 h, .int .i64 a, .int .i64 0, .int .i64 0] 25)).alloc (.cells #[.int .i64 9, .int .i64 q, .int .i64 a, .int .i64 0] 25) = W0 := ⟨_, rfl⟩
  have HbD := Lib.hid (show Below w.heap.size w W0.drew from hW0 ▸ Hb.out.drew)
  have hS : GB2 W0 w.heap.size (w.heap.size + 1) ⟨h, a, 0, 0⟩ ⟨9, q, a, 0⟩ W0 := hW0 ▸ ⟨x0, x1, x2, x3, y0, y1, y2, y3, hxl, hyl, Below.refl _ _⟩
  rw [hW0]
  clear hW0 x0 x1 x2 x3 y0 y1 y2 y3 hxl hyl HX HY Hb
  go_region_held3 (fun w' => w'.cell? ⟨w.heap.size, 0, none⟩ = some (.int .i64 h) ∧ w'.cell? ⟨w.heap.size, 1, none⟩ = some (.int .i64 a) ∧ w'.cell? ⟨w.heap.size, 2, none⟩ = some (.int .i64 0) ∧ w'.cell? ⟨w.heap.size, 3, none⟩ = some (.int .i64 0) ∧ w'.cell? ⟨w.heap.size + 1, 0, none⟩ = some (.int .i64 9) ∧ w'.cell? ⟨w.heap.size + 1, 1, none⟩ = some (.int .i64 q) ∧ w'.cell? ⟨w.heap.size + 1, 2, none⟩ = some (.int .i64 a) ∧ w'.cell? ⟨w.heap.size + 1, 3, none⟩ = some (.int .i64 0) ∧ w.heap.size < w'.heap.size ∧ w.heap.size + 1 < w'.heap.size ∧ Below W0.heap.size W0 w') (first | (show GB2 W0 w.heap.size (w.heap.size + 1) ⟨h, a, 0, 0⟩ ⟨9, q, a, 0⟩ _; (with_reducible exact hS.drew)) | (show GB2 W0 w.heap.size (w.heap.size + 1) ⟨h, a, 0, 0⟩ ⟨9, q, a, 0⟩ _; (with_reducible refine GB2.below ?_ hbR); first | assumption | exact ⟨by assumption, by assumption, by assumption, by assumption, by assumption, by assumption, by assumption, by assumption, by assumption, by assumption, by assumption⟩) | (show GB2 W0 w.heap.size (w.heap.size + 1) ⟨h, a, 0, 0⟩ ⟨9, q, a, 0⟩ _; (with_reducible refine GB2.alloc ?_); first | assumption | exact ⟨by assumption, by assumption, by assumption, by assumption, by assumption, by assumption, by assumption, by assumption, by assumption, by assumption, by assumption⟩))
    (first
      | (go_at_call 100; (with_reducible refine (Hi.out _).mono ?_); rintro e wR ⟨rfl, hbR⟩; have HbD := Lib.hid (below_nx HbD.out hbR)))
  all_goals
    have hsR := HbD.out.size
    go_wp2_with fail
    go_ret
    exact ⟨_, rfl, (Enc.Sl.mk (E := gtE) (l := [⟨h, q, 0, 0⟩, ⟨h, a, 0, 0⟩, ⟨9, q, a, 0⟩, ⟨i, a, 0, 0⟩, ⟨9, q, a, 0⟩]) rfl (Nat.le_refl _) (Nat.le_refl _) ⟨_, heap_alloc_new _ (.cells #[.int .i64 h, .int .i64 q, .int .i64 0, .int .i64 0, .int .i64 h, .int .i64 a, .int .i64 0, .int .i64 0, .int .i64 9, .int .i64 q, .int .i64 a, .int .i64 0, .int .i64 i, .int .i64 a, .int .i64 0, .int .i64 0, .int .i64 9, .int .i64 q, .int .i64 a, .int .i64 0] 25), rfl⟩).mono hsR, HbD.out.alloc hsR _⟩
end Go.Proofs.YtlmiebeffdcfhaaGreat
