/- DivSqrt2 of the model; the laws' own helpers: one form into the other, equality field by field. -/
import Derived.Test.YtlmiebeffdcfhaaGreatUBaseB03
namespace Go.Proofs.YtlmiebeffdcfhaaGreat
open Go.RowKit
attribute [local irreducible] World.cell?
set_option maxRecDepth 100000 in
set_option maxHeartbeats 1600000 in
theorem sdiv_yes (x : Zw) (w : World) (h : x.ok) (k : x.root.even) :
    Calls Tryz.prog 129 #[(.agg #[.int .i64 x.a, .int .i64 x.b, .int .i64 x.c, .int .i64 x.d])] w fun e w' => e = .returned (.tuple #[(.agg #[.int .i64 x.root.thalf.a, .int .i64 x.root.thalf.b, .int .i64 x.root.thalf.c, .int .i64 x.root.thalf.d]), .bool true]) ∧ Below w.heap.size w w' := by
  obtain ⟨a, b, c, d⟩ := x
  have Hv := Lib.hid (okB_true.2 h)
  obtain ⟨⟨a0, a1⟩, ⟨b0, b1⟩, ⟨c0, c1⟩, ⟨d0, d1⟩⟩ := h
  obtain ⟨k1, k2, k3, k4⟩ := k
  simp only [Zw.root] at a0 a1 b0 b1 c0 c1 d0 d1 k1 k2 k3 k4
  rw [← tmod2] at k1 k2 k3 k4
  go_enter Tryz.func129, Tryz.ntmps129
  go_wp2_with fail
  refine (svalid_any ⟨a, b, c, d⟩ true _ Hv.out).mono ?_
  rintro e w1 ⟨rfl, hb1⟩
  have hs1 := hb1.size
  simp at hs1
  obtain ⟨hc1, hf1⟩ := bcell hb1
  have z10 : w.heap.size < w1.heap.size := by omega
  have z11 : w.heap.size + 1 < w1.heap.size := by omega
  have hp1 := below_up (B := w.heap.size) (w := w) (by go_grown) hb1 (by first | omega | (simp; done) | (simp; omega))
  go_wp2_with fail
  refine bodyPost_ret (v := .tuple #[(.agg #[.int .i64 ((Zw.mk a b c d).root.thalf).a, .int .i64 ((Zw.mk a b c d).root.thalf).b, .int .i64 ((Zw.mk a b c d).root.thalf).c, .int .i64 ((Zw.mk a b c d).root.thalf).d]), .bool true]) (by simp [results, Tryz.results129, go_sem, hc1, z11, Zw.root, Zw.thalf]) rfl ⟨rfl, ?_⟩
  go_grown
set_option maxRecDepth 100000 in
set_option maxHeartbeats 1600000 in
theorem sdiv_no (x : Zw) (w : World) (h : x.ok) (k : ¬ x.root.even) :
    Calls Tryz.prog 129 #[(.agg #[.int .i64 x.a, .int .i64 x.b, .int .i64 x.c, .int .i64 x.d])] w fun e w' => e = .returned (.tuple #[(.agg #[.int .i64 Zw.zero.a, .int .i64 Zw.zero.b, .int .i64 Zw.zero.c, .int .i64 Zw.zero.d]), .bool false]) ∧ Below w.heap.size w w' := by
  obtain ⟨a, b, c, d⟩ := x
  have Hv := Lib.hid (okB_true.2 h)
  obtain ⟨⟨a0, a1⟩, ⟨b0, b1⟩, ⟨c0, c1⟩, ⟨d0, d1⟩⟩ := h
  simp only [Zw.root, Zw.even] at a0 a1 b0 b1 c0 c1 d0 d1 k
  rw [← tmod2, ← tmod2, ← tmod2, ← tmod2] at k
  have Hk := Lib.hid k
  clear k
  go_enter Tryz.func129, Tryz.ntmps129
  go_wp2_with fail
  refine (svalid_any ⟨a, b, c, d⟩ true _ Hv.out).mono ?_
  rintro e w1 ⟨rfl, hb1⟩
  have hs1 := hb1.size
  simp at hs1
  obtain ⟨hc1, hf1⟩ := bcell hb1
  have z10 : w.heap.size < w1.heap.size := by omega
  have z11 : w.heap.size + 1 < w1.heap.size := by omega
  have hp1 := below_up (B := w.heap.size) (w := w) (by go_grown) hb1 (by first | omega | (simp; done) | (simp; omega))
  go_wp2_with fail
  all_goals try (exfalso; exact Hk.out ⟨‹(b - d).tmod 2 = 0›, ‹(a + c).tmod 2 = 0›, ‹(b + d).tmod 2 = 0›, by simpa using ‹((c - a).tmod 2 != 0) = false›⟩)
  all_goals
    refine bodyPost_ret (v := .tuple #[(.agg #[.int .i64 Zw.zero.a, .int .i64 Zw.zero.b, .int .i64 Zw.zero.c, .int .i64 Zw.zero.d]), .bool false]) (by simp [results, Tryz.results129, go_sem, hc1, z11, Zw.zero]) rfl ⟨rfl, ?_⟩
    go_grown
theorem sdiv_bad (x : Zw) (w : World) (h : ¬ x.ok) :
    Calls Tryz.prog 129 #[(.agg #[.int .i64 x.a, .int .i64 x.b, .int .i64 x.c, .int .i64 x.d])] w fun e w' => e = .returned (.tuple #[(.agg #[.int .i64 Zw.zero.a, .int .i64 Zw.zero.b, .int .i64 Zw.zero.c, .int .i64 Zw.zero.d]), .bool false]) ∧ Below w.heap.size w w' := by
  obtain ⟨a, b, c, d⟩ := x
  have Hv := Lib.hid (okB_false.2 h)
  clear h
  go_enter Tryz.func129, Tryz.ntmps129
  go_wp2_with fail
  refine (svalid_any ⟨a, b, c, d⟩ false _ Hv.out).mono ?_
  rintro e w1 ⟨rfl, hb1⟩
  have hs1 := hb1.size
  simp at hs1
  obtain ⟨hc1, hf1⟩ := bcell hb1
  have z11 : w.heap.size + 1 < w1.heap.size := by omega
  have hp1 := below_up (B := w.heap.size) (w := w) (by go_grown) hb1 (by first | omega | (simp; done) | (simp; omega))
  go_wp2_with fail
  refine bodyPost_ret (v := .tuple #[(.agg #[.int .i64 Zw.zero.a, .int .i64 Zw.zero.b, .int .i64 Zw.zero.c, .int .i64 Zw.zero.d]), .bool false]) (by simp [results, Tryz.results129, go_sem, hc1, Zw.zero]) rfl ⟨rfl, ?_⟩
  go_grown
theorem sdiv_any (x : Zw) (w : World) :
    Calls Tryz.prog 129 #[(.agg #[.int .i64 x.a, .int .i64 x.b, .int .i64 x.c, .int .i64 x.d])] w fun e w' => e = .returned (.tuple #[(.agg #[.int .i64 (divV x).a, .int .i64 (divV x).b, .int .i64 (divV x).c, .int .i64 (divV x).d]), .bool (divB x)]) ∧ Below w.heap.size w w' := by
  by_cases h : x.ok
  · by_cases k : x.root.even
    · have := sdiv_yes x w h k
      rw [show divV x = x.root.thalf by rw [thalf_half k]; simp [divV, h, k], show divB x = true by simp [divB, h, k]]
      exact this
    · rw [show divV x = Zw.zero by simp [divV, k], show divB x = false by simp [divB, k]]
      exact sdiv_no x w h k
  · rw [show divV x = Zw.zero by simp [divV, h], show divB x = false by simp [divB, h]]
    exact sdiv_bad x w h
end Go.Proofs.YtlmiebeffdcfhaaGreat
