/- The sum, the product, the negative and the conjugates in Z[omega]: what the program's functions and their models return. -/
import Derived.Test.YtiejaciofgiffaaZwV
namespace Go.Proofs.Ytiejaciofgiffaa
open Go.RowKit
theorem below_up {B : Nat} {w w1 w2 : World} (h1 : Below B w w1) (h2 : Below w1.heap.size w1 w2) (hB : B ≤ w1.heap.size) : Below B w w2 := h1.trans (h2.mono hB)
set_option maxRecDepth 100000 in
set_option maxHeartbeats 800000 in
theorem ineg_yes (x : Zw) (w : World) (h : x.ok) :
    Calls Try.prog 18 #[(.agg #[.int .i64 x.a, .int .i64 x.b, .int .i64 x.c, .int .i64 x.d])] w fun e w' => e = .returned (.agg #[.int .i64 x.neg.a, .int .i64 x.neg.b, .int .i64 x.neg.c, .int .i64 x.neg.d]) ∧ Below w.heap.size w w' := by
  obtain ⟨a, b, c, d⟩ := x
  have Hv := Lib.hid (okB_true.2 h)
  obtain ⟨⟨a0, a1⟩, ⟨b0, b1⟩, ⟨c0, c1⟩, ⟨d0, d1⟩⟩ := h
  simp only [] at a0 a1 b0 b1 c0 c1 d0 d1
  go_enter Try.func18, Try.ntmps18
  go_wp2_with fail
  refine (ivalid_any ⟨a, b, c, d⟩ true _ Hv.out).mono ?_
  rintro e w1 ⟨rfl, hb1⟩
  have hs1 := hb1.size
  simp at hs1
  obtain ⟨hc, hf⟩ := bcell hb1
  go_wp2_with fail
  refine bodyPost_ret (v := (.agg #[.int .i64 ((Zw.mk a b c d).neg).a, .int .i64 ((Zw.mk a b c d).neg).b, .int .i64 ((Zw.mk a b c d).neg).c, .int .i64 ((Zw.mk a b c d).neg).d])) (by simp [results, Try.results18, go_sem, hc, Zw.neg]) rfl ⟨rfl, ?_⟩
  have hb2 := below_up (B := w.heap.size) (w := w) (by go_grown) hb1 (by simp; omega)
  go_grown
set_option maxRecDepth 100000 in
set_option maxHeartbeats 800000 in
theorem ineg_no (x : Zw) (w : World) (h : ¬ x.ok) :
    Calls Try.prog 18 #[(.agg #[.int .i64 x.a, .int .i64 x.b, .int .i64 x.c, .int .i64 x.d])] w fun e w' => e = .returned (.agg #[.int .i64 Zw.zero.a, .int .i64 Zw.zero.b, .int .i64 Zw.zero.c, .int .i64 Zw.zero.d]) ∧ Below w.heap.size w w' := by
  obtain ⟨a, b, c, d⟩ := x
  have Hv := Lib.hid (okB_false.2 h)
  clear h
  go_enter Try.func18, Try.ntmps18
  go_wp2_with fail
  refine (ivalid_any ⟨a, b, c, d⟩ false _ Hv.out).mono ?_
  rintro e w1 ⟨rfl, hb1⟩
  have hs1 := hb1.size
  simp at hs1
  obtain ⟨hc, hf⟩ := bcell hb1
  go_wp2_with fail
  refine bodyPost_ret (v := (.agg #[.int .i64 Zw.zero.a, .int .i64 Zw.zero.b, .int .i64 Zw.zero.c, .int .i64 Zw.zero.d])) (by simp [results, Try.results18, go_sem, hc, Zw.zero]) rfl ⟨rfl, ?_⟩
  have hb2 := below_up (B := w.heap.size) (w := w) (by go_grown) hb1 (by simp; omega)
  go_grown
theorem ineg_any (x : Zw) (w : World) :
    Calls Try.prog 18 #[(.agg #[.int .i64 x.a, .int .i64 x.b, .int .i64 x.c, .int .i64 x.d])] w fun e w' => e = .returned (.agg #[.int .i64 (negV x).a, .int .i64 (negV x).b, .int .i64 (negV x).c, .int .i64 (negV x).d]) ∧ Below w.heap.size w w' := by
  unfold negV
  by_cases h : x.ok
  · rw [if_pos h]; exact ineg_yes x w h
  · rw [if_neg h]; exact ineg_no x w h
set_option maxRecDepth 100000 in
set_option maxHeartbeats 800000 in
theorem iconj_yes (x : Zw) (w : World) (h : x.ok) :
    Calls Try.prog 23 #[(.agg #[.int .i64 x.a, .int .i64 x.b, .int .i64 x.c, .int .i64 x.d])] w fun e w' => e = .returned (.agg #[.int .i64 x.conj.a, .int .i64 x.conj.b, .int .i64 x.conj.c, .int .i64 x.conj.d]) ∧ Below w.heap.size w w' := by
  obtain ⟨a, b, c, d⟩ := x
  have Hv := Lib.hid (okB_true.2 h)
  obtain ⟨⟨a0, a1⟩, ⟨b0, b1⟩, ⟨c0, c1⟩, ⟨d0, d1⟩⟩ := h
  simp only [] at a0 a1 b0 b1 c0 c1 d0 d1
  go_enter Try.func23, Try.ntmps23
  go_wp2_with fail
  refine (ivalid_any ⟨a, b, c, d⟩ true _ Hv.out).mono ?_
  rintro e w1 ⟨rfl, hb1⟩
  have hs1 := hb1.size
  simp at hs1
  obtain ⟨hc, hf⟩ := bcell hb1
  go_wp2_with fail
  refine bodyPost_ret (v := (.agg #[.int .i64 ((Zw.mk a b c d).conj).a, .int .i64 ((Zw.mk a b c d).conj).b, .int .i64 ((Zw.mk a b c d).conj).c, .int .i64 ((Zw.mk a b c d).conj).d])) (by simp [results, Try.results23, go_sem, hc, Zw.conj]) rfl ⟨rfl, ?_⟩
  have hb2 := below_up (B := w.heap.size) (w := w) (by go_grown) hb1 (by simp; omega)
  go_grown
set_option maxRecDepth 100000 in
set_option maxHeartbeats 800000 in
theorem iconj_no (x : Zw) (w : World) (h : ¬ x.ok) :
    Calls Try.prog 23 #[(.agg #[.int .i64 x.a, .int .i64 x.b, .int .i64 x.c, .int .i64 x.d])] w fun e w' => e = .returned (.agg #[.int .i64 Zw.zero.a, .int .i64 Zw.zero.b, .int .i64 Zw.zero.c, .int .i64 Zw.zero.d]) ∧ Below w.heap.size w w' := by
  obtain ⟨a, b, c, d⟩ := x
  have Hv := Lib.hid (okB_false.2 h)
  clear h
  go_enter Try.func23, Try.ntmps23
  go_wp2_with fail
  refine (ivalid_any ⟨a, b, c, d⟩ false _ Hv.out).mono ?_
  rintro e w1 ⟨rfl, hb1⟩
  have hs1 := hb1.size
  simp at hs1
  obtain ⟨hc, hf⟩ := bcell hb1
  go_wp2_with fail
  refine bodyPost_ret (v := (.agg #[.int .i64 Zw.zero.a, .int .i64 Zw.zero.b, .int .i64 Zw.zero.c, .int .i64 Zw.zero.d])) (by simp [results, Try.results23, go_sem, hc, Zw.zero]) rfl ⟨rfl, ?_⟩
  have hb2 := below_up (B := w.heap.size) (w := w) (by go_grown) hb1 (by simp; omega)
  go_grown
theorem iconj_any (x : Zw) (w : World) :
    Calls Try.prog 23 #[(.agg #[.int .i64 x.a, .int .i64 x.b, .int .i64 x.c, .int .i64 x.d])] w fun e w' => e = .returned (.agg #[.int .i64 (conjV x).a, .int .i64 (conjV x).b, .int .i64 (conjV x).c, .int .i64 (conjV x).d]) ∧ Below w.heap.size w w' := by
  unfold conjV
  by_cases h : x.ok
  · rw [if_pos h]; exact iconj_yes x w h
  · rw [if_neg h]; exact iconj_no x w h
set_option maxRecDepth 100000 in
set_option maxHeartbeats 800000 in
theorem ibar_yes (x : Zw) (w : World) (h : x.ok) :
    Calls Try.prog 24 #[(.agg #[.int .i64 x.a, .int .i64 x.b, .int .i64 x.c, .int .i64 x.d])] w fun e w' => e = .returned (.agg #[.int .i64 x.bar.a, .int .i64 x.bar.b, .int .i64 x.bar.c, .int .i64 x.bar.d]) ∧ Below w.heap.size w w' := by
  obtain ⟨a, b, c, d⟩ := x
  have Hv := Lib.hid (okB_true.2 h)
  obtain ⟨⟨a0, a1⟩, ⟨b0, b1⟩, ⟨c0, c1⟩, ⟨d0, d1⟩⟩ := h
  simp only [] at a0 a1 b0 b1 c0 c1 d0 d1
  go_enter Try.func24, Try.ntmps24
  go_wp2_with fail
  refine (ivalid_any ⟨a, b, c, d⟩ true _ Hv.out).mono ?_
  rintro e w1 ⟨rfl, hb1⟩
  have hs1 := hb1.size
  simp at hs1
  obtain ⟨hc, hf⟩ := bcell hb1
  go_wp2_with fail
  refine bodyPost_ret (v := (.agg #[.int .i64 ((Zw.mk a b c d).bar).a, .int .i64 ((Zw.mk a b c d).bar).b, .int .i64 ((Zw.mk a b c d).bar).c, .int .i64 ((Zw.mk a b c d).bar).d])) (by simp [results, Try.results24, go_sem, hc, Zw.bar]) rfl ⟨rfl, ?_⟩
  have hb2 := below_up (B := w.heap.size) (w := w) (by go_grown) hb1 (by simp; omega)
  go_grown
set_option maxRecDepth 100000 in
set_option maxHeartbeats 800000 in
theorem ibar_no (x : Zw) (w : World) (h : ¬ x.ok) :
    Calls Try.prog 24 #[(.agg #[.int .i64 x.a, .int .i64 x.b, .int .i64 x.c, .int .i64 x.d])] w fun e w' => e = .returned (.agg #[.int .i64 Zw.zero.a, .int .i64 Zw.zero.b, .int .i64 Zw.zero.c, .int .i64 Zw.zero.d]) ∧ Below w.heap.size w w' := by
  obtain ⟨a, b, c, d⟩ := x
  have Hv := Lib.hid (okB_false.2 h)
  clear h
  go_enter Try.func24, Try.ntmps24
  go_wp2_with fail
  refine (ivalid_any ⟨a, b, c, d⟩ false _ Hv.out).mono ?_
  rintro e w1 ⟨rfl, hb1⟩
  have hs1 := hb1.size
  simp at hs1
  obtain ⟨hc, hf⟩ := bcell hb1
  go_wp2_with fail
  refine bodyPost_ret (v := (.agg #[.int .i64 Zw.zero.a, .int .i64 Zw.zero.b, .int .i64 Zw.zero.c, .int .i64 Zw.zero.d])) (by simp [results, Try.results24, go_sem, hc, Zw.zero]) rfl ⟨rfl, ?_⟩
  have hb2 := below_up (B := w.heap.size) (w := w) (by go_grown) hb1 (by simp; omega)
  go_grown
theorem ibar_any (x : Zw) (w : World) :
    Calls Try.prog 24 #[(.agg #[.int .i64 x.a, .int .i64 x.b, .int .i64 x.c, .int .i64 x.d])] w fun e w' => e = .returned (.agg #[.int .i64 (barV x).a, .int .i64 (barV x).b, .int .i64 (barV x).c, .int .i64 (barV x).d]) ∧ Below w.heap.size w w' := by
  unfold barV
  by_cases h : x.ok
  · rw [if_pos h]; exact ibar_yes x w h
  · rw [if_neg h]; exact ibar_no x w h
set_option maxRecDepth 100000 in
set_option maxHeartbeats 800000 in
theorem sneg_yes (x : Zw) (w : World) (h : x.ok) :
    Calls Try.prog 33 #[(.agg #[.int .i64 x.a, .int .i64 x.b, .int .i64 x.c, .int .i64 x.d])] w fun e w' => e = .returned (.agg #[.int .i64 x.neg.a, .int .i64 x.neg.b, .int .i64 x.neg.c, .int .i64 x.neg.d]) ∧ Below w.heap.size w w' := by
  obtain ⟨a, b, c, d⟩ := x
  have Hv := Lib.hid (okB_true.2 h)
  obtain ⟨⟨a0, a1⟩, ⟨b0, b1⟩, ⟨c0, c1⟩, ⟨d0, d1⟩⟩ := h
  simp only [] at a0 a1 b0 b1 c0 c1 d0 d1
  go_enter Try.func33, Try.ntmps33
  go_wp2_with fail
  refine (svalid_any ⟨a, b, c, d⟩ true _ Hv.out).mono ?_
  rintro e w1 ⟨rfl, hb1⟩
  have hs1 := hb1.size
  simp at hs1
  obtain ⟨hc, hf⟩ := bcell hb1
  go_wp2_with fail
  refine bodyPost_ret (v := (.agg #[.int .i64 ((Zw.mk a b c d).neg).a, .int .i64 ((Zw.mk a b c d).neg).b, .int .i64 ((Zw.mk a b c d).neg).c, .int .i64 ((Zw.mk a b c d).neg).d])) (by simp [results, Try.results33, go_sem, hc, Zw.neg]) rfl ⟨rfl, ?_⟩
  have hb2 := below_up (B := w.heap.size) (w := w) (by go_grown) hb1 (by simp; omega)
  go_grown
set_option maxRecDepth 100000 in
set_option maxHeartbeats 800000 in
theorem sneg_no (x : Zw) (w : World) (h : ¬ x.ok) :
    Calls Try.prog 33 #[(.agg #[.int .i64 x.a, .int .i64 x.b, .int .i64 x.c, .int .i64 x.d])] w fun e w' => e = .returned (.agg #[.int .i64 Zw.zero.a, .int .i64 Zw.zero.b, .int .i64 Zw.zero.c, .int .i64 Zw.zero.d]) ∧ Below w.heap.size w w' := by
  obtain ⟨a, b, c, d⟩ := x
  have Hv := Lib.hid (okB_false.2 h)
  clear h
  go_enter Try.func33, Try.ntmps33
  go_wp2_with fail
  refine (svalid_any ⟨a, b, c, d⟩ false _ Hv.out).mono ?_
  rintro e w1 ⟨rfl, hb1⟩
  have hs1 := hb1.size
  simp at hs1
  obtain ⟨hc, hf⟩ := bcell hb1
  go_wp2_with fail
  refine bodyPost_ret (v := (.agg #[.int .i64 Zw.zero.a, .int .i64 Zw.zero.b, .int .i64 Zw.zero.c, .int .i64 Zw.zero.d])) (by simp [results, Try.results33, go_sem, hc, Zw.zero]) rfl ⟨rfl, ?_⟩
  have hb2 := below_up (B := w.heap.size) (w := w) (by go_grown) hb1 (by simp; omega)
  go_grown
theorem sneg_any (x : Zw) (w : World) :
    Calls Try.prog 33 #[(.agg #[.int .i64 x.a, .int .i64 x.b, .int .i64 x.c, .int .i64 x.d])] w fun e w' => e = .returned (.agg #[.int .i64 (negV x).a, .int .i64 (negV x).b, .int .i64 (negV x).c, .int .i64 (negV x).d]) ∧ Below w.heap.size w w' := by
  unfold negV
  by_cases h : x.ok
  · rw [if_pos h]; exact sneg_yes x w h
  · rw [if_neg h]; exact sneg_no x w h
set_option maxRecDepth 100000 in
set_option maxHeartbeats 800000 in
theorem sconj_yes (x : Zw) (w : World) (h : x.ok) :
    Calls Try.prog 34 #[(.agg #[.int .i64 x.a, .int .i64 x.b, .int .i64 x.c, .int .i64 x.d])] w fun e w' => e = .returned (.agg #[.int .i64 x.conj.a, .int .i64 x.conj.b, .int .i64 x.conj.c, .int .i64 x.conj.d]) ∧ Below w.heap.size w w' := by
  obtain ⟨a, b, c, d⟩ := x
  have Hv := Lib.hid (okB_true.2 h)
  obtain ⟨⟨a0, a1⟩, ⟨b0, b1⟩, ⟨c0, c1⟩, ⟨d0, d1⟩⟩ := h
  simp only [] at a0 a1 b0 b1 c0 c1 d0 d1
  go_enter Try.func34, Try.ntmps34
  go_wp2_with fail
  refine (svalid_any ⟨a, b, c, d⟩ true _ Hv.out).mono ?_
  rintro e w1 ⟨rfl, hb1⟩
  have hs1 := hb1.size
  simp at hs1
  obtain ⟨hc, hf⟩ := bcell hb1
  go_wp2_with fail
  refine bodyPost_ret (v := (.agg #[.int .i64 ((Zw.mk a b c d).conj).a, .int .i64 ((Zw.mk a b c d).conj).b, .int .i64 ((Zw.mk a b c d).conj).c, .int .i64 ((Zw.mk a b c d).conj).d])) (by simp [results, Try.results34, go_sem, hc, Zw.conj]) rfl ⟨rfl, ?_⟩
  have hb2 := below_up (B := w.heap.size) (w := w) (by go_grown) hb1 (by simp; omega)
  go_grown
set_option maxRecDepth 100000 in
set_option maxHeartbeats 800000 in
theorem sconj_no (x : Zw) (w : World) (h : ¬ x.ok) :
    Calls Try.prog 34 #[(.agg #[.int .i64 x.a, .int .i64 x.b, .int .i64 x.c, .int .i64 x.d])] w fun e w' => e = .returned (.agg #[.int .i64 Zw.zero.a, .int .i64 Zw.zero.b, .int .i64 Zw.zero.c, .int .i64 Zw.zero.d]) ∧ Below w.heap.size w w' := by
  obtain ⟨a, b, c, d⟩ := x
  have Hv := Lib.hid (okB_false.2 h)
  clear h
  go_enter Try.func34, Try.ntmps34
  go_wp2_with fail
  refine (svalid_any ⟨a, b, c, d⟩ false _ Hv.out).mono ?_
  rintro e w1 ⟨rfl, hb1⟩
  have hs1 := hb1.size
  simp at hs1
  obtain ⟨hc, hf⟩ := bcell hb1
  go_wp2_with fail
  refine bodyPost_ret (v := (.agg #[.int .i64 Zw.zero.a, .int .i64 Zw.zero.b, .int .i64 Zw.zero.c, .int .i64 Zw.zero.d])) (by simp [results, Try.results34, go_sem, hc, Zw.zero]) rfl ⟨rfl, ?_⟩
  have hb2 := below_up (B := w.heap.size) (w := w) (by go_grown) hb1 (by simp; omega)
  go_grown
theorem sconj_any (x : Zw) (w : World) :
    Calls Try.prog 34 #[(.agg #[.int .i64 x.a, .int .i64 x.b, .int .i64 x.c, .int .i64 x.d])] w fun e w' => e = .returned (.agg #[.int .i64 (conjV x).a, .int .i64 (conjV x).b, .int .i64 (conjV x).c, .int .i64 (conjV x).d]) ∧ Below w.heap.size w w' := by
  unfold conjV
  by_cases h : x.ok
  · rw [if_pos h]; exact sconj_yes x w h
  · rw [if_neg h]; exact sconj_no x w h
set_option maxRecDepth 100000 in
set_option maxHeartbeats 800000 in
theorem sbar_yes (x : Zw) (w : World) (h : x.ok) :
    Calls Try.prog 35 #[(.agg #[.int .i64 x.a, .int .i64 x.b, .int .i64 x.c, .int .i64 x.d])] w fun e w' => e = .returned (.agg #[.int .i64 x.bar.a, .int .i64 x.bar.b, .int .i64 x.bar.c, .int .i64 x.bar.d]) ∧ Below w.heap.size w w' := by
  obtain ⟨a, b, c, d⟩ := x
  have Hv := Lib.hid (okB_true.2 h)
  obtain ⟨⟨a0, a1⟩, ⟨b0, b1⟩, ⟨c0, c1⟩, ⟨d0, d1⟩⟩ := h
  simp only [] at a0 a1 b0 b1 c0 c1 d0 d1
  go_enter Try.func35, Try.ntmps35
  go_wp2_with fail
  refine (svalid_any ⟨a, b, c, d⟩ true _ Hv.out).mono ?_
  rintro e w1 ⟨rfl, hb1⟩
  have hs1 := hb1.size
  simp at hs1
  obtain ⟨hc, hf⟩ := bcell hb1
  go_wp2_with fail
  refine bodyPost_ret (v := (.agg #[.int .i64 ((Zw.mk a b c d).bar).a, .int .i64 ((Zw.mk a b c d).bar).b, .int .i64 ((Zw.mk a b c d).bar).c, .int .i64 ((Zw.mk a b c d).bar).d])) (by simp [results, Try.results35, go_sem, hc, Zw.bar]) rfl ⟨rfl, ?_⟩
  have hb2 := below_up (B := w.heap.size) (w := w) (by go_grown) hb1 (by simp; omega)
  go_grown
set_option maxRecDepth 100000 in
set_option maxHeartbeats 800000 in
theorem sbar_no (x : Zw) (w : World) (h : ¬ x.ok) :
    Calls Try.prog 35 #[(.agg #[.int .i64 x.a, .int .i64 x.b, .int .i64 x.c, .int .i64 x.d])] w fun e w' => e = .returned (.agg #[.int .i64 Zw.zero.a, .int .i64 Zw.zero.b, .int .i64 Zw.zero.c, .int .i64 Zw.zero.d]) ∧ Below w.heap.size w w' := by
  obtain ⟨a, b, c, d⟩ := x
  have Hv := Lib.hid (okB_false.2 h)
  clear h
  go_enter Try.func35, Try.ntmps35
  go_wp2_with fail
  refine (svalid_any ⟨a, b, c, d⟩ false _ Hv.out).mono ?_
  rintro e w1 ⟨rfl, hb1⟩
  have hs1 := hb1.size
  simp at hs1
  obtain ⟨hc, hf⟩ := bcell hb1
  go_wp2_with fail
  refine bodyPost_ret (v := (.agg #[.int .i64 Zw.zero.a, .int .i64 Zw.zero.b, .int .i64 Zw.zero.c, .int .i64 Zw.zero.d])) (by simp [results, Try.results35, go_sem, hc, Zw.zero]) rfl ⟨rfl, ?_⟩
  have hb2 := below_up (B := w.heap.size) (w := w) (by go_grown) hb1 (by simp; omega)
  go_grown
theorem sbar_any (x : Zw) (w : World) :
    Calls Try.prog 35 #[(.agg #[.int .i64 x.a, .int .i64 x.b, .int .i64 x.c, .int .i64 x.d])] w fun e w' => e = .returned (.agg #[.int .i64 (barV x).a, .int .i64 (barV x).b, .int .i64 (barV x).c, .int .i64 (barV x).d]) ∧ Below w.heap.size w w' := by
  unfold barV
  by_cases h : x.ok
  · rw [if_pos h]; exact sbar_yes x w h
  · rw [if_neg h]; exact sbar_no x w h
end Go.Proofs.Ytiejaciofgiffaa
