/- The sum and the product in Z[omega], of the program and of its model. -/
import Derived.Test.YtlmiebeffdcfhaaGreatUBaseB03
namespace Go.Proofs.YtlmiebeffdcfhaaGreat
open Go.RowKit
attribute [local irreducible] World.cell?
def limV (x : Zw) : Zw := if x.ok then x else .zero
set_option maxRecDepth 100000 in
set_option maxHeartbeats 800000 in
theorem ilim_yes (x : Zw) (w : World) (h : x.ok) :
    Calls Tryz.prog 151 #[(.agg #[.int .i64 x.a, .int .i64 x.b, .int .i64 x.c, .int .i64 x.d])] w fun e w' => e = .returned (.tuple #[(.agg #[.int .i64 x.a, .int .i64 x.b, .int .i64 x.c, .int .i64 x.d]), .bool true]) ∧ Below w.heap.size w w' := by
  obtain ⟨a, b, c, d⟩ := x
  have Hv := Lib.hid (okB_true.2 h)
  clear h
  go_enter Tryz.func151, Tryz.ntmps151
  go_wp2_with fail
  refine (ivalid_any ⟨a, b, c, d⟩ true _ Hv.out).mono ?_
  rintro e w1 ⟨rfl, hb1⟩
  have hs1 := hb1.size
  simp at hs1
  obtain ⟨hc, hf⟩ := bcell hb1
  go_wp2_with fail
  refine bodyPost_ret (v := .tuple #[(.agg #[.int .i64 ((Zw.mk a b c d)).a, .int .i64 ((Zw.mk a b c d)).b, .int .i64 ((Zw.mk a b c d)).c, .int .i64 ((Zw.mk a b c d)).d]), .bool true]) (by simp [results, Tryz.results151, go_sem, hc]) rfl ⟨rfl, ?_⟩
  have hb2 := below_up (B := w.heap.size) (w := w) (by go_grown) hb1 (by simp; omega)
  go_grown
set_option maxRecDepth 100000 in
set_option maxHeartbeats 800000 in
theorem ilim_no (x : Zw) (w : World) (h : ¬ x.ok) :
    Calls Tryz.prog 151 #[(.agg #[.int .i64 x.a, .int .i64 x.b, .int .i64 x.c, .int .i64 x.d])] w fun e w' => e = .returned (.tuple #[(.agg #[.int .i64 Zw.zero.a, .int .i64 Zw.zero.b, .int .i64 Zw.zero.c, .int .i64 Zw.zero.d]), .bool false]) ∧ Below w.heap.size w w' := by
  obtain ⟨a, b, c, d⟩ := x
  have Hv := Lib.hid (okB_false.2 h)
  clear h
  go_enter Tryz.func151, Tryz.ntmps151
  go_wp2_with fail
  refine (ivalid_any ⟨a, b, c, d⟩ false _ Hv.out).mono ?_
  rintro e w1 ⟨rfl, hb1⟩
  have hs1 := hb1.size
  simp at hs1
  obtain ⟨hc, hf⟩ := bcell hb1
  go_wp2_with fail
  refine bodyPost_ret (v := .tuple #[(.agg #[.int .i64 Zw.zero.a, .int .i64 Zw.zero.b, .int .i64 Zw.zero.c, .int .i64 Zw.zero.d]), .bool false]) (by simp [results, Tryz.results151, go_sem, hc, Zw.zero]) rfl ⟨rfl, ?_⟩
  have hb2 := below_up (B := w.heap.size) (w := w) (by go_grown) hb1 (by simp; omega)
  go_grown
theorem ilim_any (x : Zw) (w : World) :
    Calls Tryz.prog 151 #[(.agg #[.int .i64 x.a, .int .i64 x.b, .int .i64 x.c, .int .i64 x.d])] w fun e w' => e = .returned (.tuple #[(.agg #[.int .i64 (limV x).a, .int .i64 (limV x).b, .int .i64 (limV x).c, .int .i64 (limV x).d]), .bool (okB x)]) ∧ Below w.heap.size w w' := by
  unfold limV
  by_cases h : x.ok
  · rw [if_pos h, okB_true.2 h]; exact ilim_yes x w h
  · rw [if_neg h, okB_false.2 h]; exact ilim_no x w h
set_option maxRecDepth 100000 in
set_option maxHeartbeats 800000 in
theorem slim_yes (x : Zw) (w : World) (h : x.ok) :
    Calls Tryz.prog 132 #[(.agg #[.int .i64 x.a, .int .i64 x.b, .int .i64 x.c, .int .i64 x.d])] w fun e w' => e = .returned (.tuple #[(.agg #[.int .i64 x.a, .int .i64 x.b, .int .i64 x.c, .int .i64 x.d]), .bool true]) ∧ Below w.heap.size w w' := by
  obtain ⟨a, b, c, d⟩ := x
  have Hv := Lib.hid (okB_true.2 h)
  clear h
  go_enter Tryz.func132, Tryz.ntmps132
  go_wp2_with fail
  refine (svalid_any ⟨a, b, c, d⟩ true _ Hv.out).mono ?_
  rintro e w1 ⟨rfl, hb1⟩
  have hs1 := hb1.size
  simp at hs1
  obtain ⟨hc, hf⟩ := bcell hb1
  go_wp2_with fail
  refine bodyPost_ret (v := .tuple #[(.agg #[.int .i64 ((Zw.mk a b c d)).a, .int .i64 ((Zw.mk a b c d)).b, .int .i64 ((Zw.mk a b c d)).c, .int .i64 ((Zw.mk a b c d)).d]), .bool true]) (by simp [results, Tryz.results132, go_sem, hc]) rfl ⟨rfl, ?_⟩
  have hb2 := below_up (B := w.heap.size) (w := w) (by go_grown) hb1 (by simp; omega)
  go_grown
set_option maxRecDepth 100000 in
set_option maxHeartbeats 800000 in
theorem slim_no (x : Zw) (w : World) (h : ¬ x.ok) :
    Calls Tryz.prog 132 #[(.agg #[.int .i64 x.a, .int .i64 x.b, .int .i64 x.c, .int .i64 x.d])] w fun e w' => e = .returned (.tuple #[(.agg #[.int .i64 Zw.zero.a, .int .i64 Zw.zero.b, .int .i64 Zw.zero.c, .int .i64 Zw.zero.d]), .bool false]) ∧ Below w.heap.size w w' := by
  obtain ⟨a, b, c, d⟩ := x
  have Hv := Lib.hid (okB_false.2 h)
  clear h
  go_enter Tryz.func132, Tryz.ntmps132
  go_wp2_with fail
  refine (svalid_any ⟨a, b, c, d⟩ false _ Hv.out).mono ?_
  rintro e w1 ⟨rfl, hb1⟩
  have hs1 := hb1.size
  simp at hs1
  obtain ⟨hc, hf⟩ := bcell hb1
  go_wp2_with fail
  refine bodyPost_ret (v := .tuple #[(.agg #[.int .i64 Zw.zero.a, .int .i64 Zw.zero.b, .int .i64 Zw.zero.c, .int .i64 Zw.zero.d]), .bool false]) (by simp [results, Tryz.results132, go_sem, hc, Zw.zero]) rfl ⟨rfl, ?_⟩
  have hb2 := below_up (B := w.heap.size) (w := w) (by go_grown) hb1 (by simp; omega)
  go_grown
theorem slim_any (x : Zw) (w : World) :
    Calls Tryz.prog 132 #[(.agg #[.int .i64 x.a, .int .i64 x.b, .int .i64 x.c, .int .i64 x.d])] w fun e w' => e = .returned (.tuple #[(.agg #[.int .i64 (limV x).a, .int .i64 (limV x).b, .int .i64 (limV x).c, .int .i64 (limV x).d]), .bool (okB x)]) ∧ Below w.heap.size w w' := by
  unfold limV
  by_cases h : x.ok
  · rw [if_pos h, okB_true.2 h]; exact slim_yes x w h
  · rw [if_neg h, okB_false.2 h]; exact slim_no x w h
set_option maxRecDepth 100000 in
set_option maxHeartbeats 1600000 in
theorem iadd_yes (x y : Zw) (w : World) (h : x.ok) (k : y.ok) :
    Calls Tryz.prog 153 #[(.agg #[.int .i64 x.a, .int .i64 x.b, .int .i64 x.c, .int .i64 x.d]), (.agg #[.int .i64 y.a, .int .i64 y.b, .int .i64 y.c, .int .i64 y.d])] w fun e w' => e = .returned (.tuple #[(.agg #[.int .i64 (limV (x.add y)).a, .int .i64 (limV (x.add y)).b, .int .i64 (limV (x.add y)).c, .int .i64 (limV (x.add y)).d]), .bool (okB (x.add y))]) ∧ Below w.heap.size w w' := by
  obtain ⟨xa, xb, xc, xd⟩ := x
  obtain ⟨ya, yb, yc, yd⟩ := y
  have Hv := Lib.hid (okB_true.2 h)
  have Kv := Lib.hid (okB_true.2 k)
  obtain ⟨ha, hb, hc, hd⟩ := h
  obtain ⟨ka, kb, kc, kd⟩ := k
  simp only [] at ha hb hc hd ka kb kc kd
  obtain ⟨a0, a1⟩ := ha
  obtain ⟨b0, b1⟩ := hb
  obtain ⟨c0, c1⟩ := hc
  obtain ⟨d0, d1⟩ := hd
  obtain ⟨e0, e1⟩ := ka
  obtain ⟨f0, f1⟩ := kb
  obtain ⟨g0, g1⟩ := kc
  obtain ⟨i0, i1⟩ := kd
  have Hl := Lib.hid (ilim_any ((Zw.mk xa xb xc xd).add ⟨ya, yb, yc, yd⟩))
  generalize limV ((Zw.mk xa xb xc xd).add ⟨ya, yb, yc, yd⟩) = r at *
  generalize okB ((Zw.mk xa xb xc xd).add ⟨ya, yb, yc, yd⟩) = t at *
  go_enter Tryz.func153, Tryz.ntmps153
  go_wp2_with fail
  refine (ivalid_any ⟨xa, xb, xc, xd⟩ true _ Hv.out).mono ?_
  rintro e w1 ⟨rfl, hb1⟩
  have hs1 := hb1.size
  simp at hs1
  obtain ⟨hc1, hf1⟩ := bcell hb1
  have z10 : w.heap.size < w1.heap.size := by omega
  have z11 : w.heap.size + 1 < w1.heap.size := by omega
  have z12 : w.heap.size + 1 + 1 < w1.heap.size := by omega
  go_wp2_with fail
  refine (ivalid_any ⟨ya, yb, yc, yd⟩ true _ Kv.out).mono ?_
  rintro e w2 ⟨rfl, hb2⟩
  have hs2 := hb2.size
  obtain ⟨hc2, hf2⟩ := bcell hb2
  have hp2 := below_up (B := w.heap.size) (w := w) (below_up (B := w.heap.size) (w := w) (by go_grown) hb1 (by simp; omega)) hb2 (by omega)
  have z20 : w.heap.size < w2.heap.size := by omega
  have z21 : w.heap.size + 1 < w2.heap.size := by omega
  have z22 : w.heap.size + 1 + 1 < w2.heap.size := by omega
  go_wp2_with fail
  refine (Hl.out _).mono ?_
  rintro e w3 ⟨rfl, hb3⟩
  have hs3 := hb3.size
  obtain ⟨hc3, hf3⟩ := bcell hb3
  have z30 : w.heap.size < w3.heap.size := by omega
  have z31 : w.heap.size + 1 < w3.heap.size := by omega
  have z32 : w.heap.size + 1 + 1 < w3.heap.size := by omega
  have hp3 := below_up hp2 hb3 (by omega)
  go_wp2_with fail
  refine bodyPost_ret (v := .tuple #[(.agg #[.int .i64 r.a, .int .i64 r.b, .int .i64 r.c, .int .i64 r.d]), .bool t]) (by simp [results, Tryz.results153, go_sem, hc1, hc2, hc3, z12, z22]) rfl ⟨rfl, ?_⟩
  go_grown
set_option maxRecDepth 100000 in
set_option maxHeartbeats 800000 in
theorem iadd_no1 (x y : Zw) (w : World) (h : ¬ x.ok) :
    Calls Tryz.prog 153 #[(.agg #[.int .i64 x.a, .int .i64 x.b, .int .i64 x.c, .int .i64 x.d]), (.agg #[.int .i64 y.a, .int .i64 y.b, .int .i64 y.c, .int .i64 y.d])] w fun e w' => e = .returned (.tuple #[(.agg #[.int .i64 Zw.zero.a, .int .i64 Zw.zero.b, .int .i64 Zw.zero.c, .int .i64 Zw.zero.d]), .bool false]) ∧ Below w.heap.size w w' := by
  obtain ⟨xa, xb, xc, xd⟩ := x
  obtain ⟨ya, yb, yc, yd⟩ := y
  have Hv := Lib.hid (okB_false.2 h)
  clear h
  go_enter Tryz.func153, Tryz.ntmps153
  go_wp2_with fail
  refine (ivalid_any ⟨xa, xb, xc, xd⟩ false _ Hv.out).mono ?_
  rintro e w1 ⟨rfl, hb1⟩
  have hs1 := hb1.size
  simp at hs1
  obtain ⟨hc1, hf1⟩ := bcell hb1
  have z12 : w.heap.size + 1 + 1 < w1.heap.size := by omega
  have hp1 := below_up (B := w.heap.size) (w := w) (by go_grown) hb1 (by simp; omega)
  go_wp2_with fail
  refine bodyPost_ret (v := .tuple #[(.agg #[.int .i64 Zw.zero.a, .int .i64 Zw.zero.b, .int .i64 Zw.zero.c, .int .i64 Zw.zero.d]), .bool false]) (by simp [results, Tryz.results153, go_sem, hc1, Zw.zero]) rfl ⟨rfl, ?_⟩
  go_grown
set_option maxRecDepth 100000 in
set_option maxHeartbeats 800000 in
theorem iadd_no2 (x y : Zw) (w : World) (h : x.ok) (k : ¬ y.ok) :
    Calls Tryz.prog 153 #[(.agg #[.int .i64 x.a, .int .i64 x.b, .int .i64 x.c, .int .i64 x.d]), (.agg #[.int .i64 y.a, .int .i64 y.b, .int .i64 y.c, .int .i64 y.d])] w fun e w' => e = .returned (.tuple #[(.agg #[.int .i64 Zw.zero.a, .int .i64 Zw.zero.b, .int .i64 Zw.zero.c, .int .i64 Zw.zero.d]), .bool false]) ∧ Below w.heap.size w w' := by
  obtain ⟨xa, xb, xc, xd⟩ := x
  obtain ⟨ya, yb, yc, yd⟩ := y
  have Hv := Lib.hid (okB_true.2 h)
  have Kv := Lib.hid (okB_false.2 k)
  clear h k
  go_enter Tryz.func153, Tryz.ntmps153
  go_wp2_with fail
  refine (ivalid_any ⟨xa, xb, xc, xd⟩ true _ Hv.out).mono ?_
  rintro e w1 ⟨rfl, hb1⟩
  have hs1 := hb1.size
  simp at hs1
  obtain ⟨hc1, hf1⟩ := bcell hb1
  have z10 : w.heap.size < w1.heap.size := by omega
  have z11 : w.heap.size + 1 < w1.heap.size := by omega
  have z12 : w.heap.size + 1 + 1 < w1.heap.size := by omega
  go_wp2_with fail
  refine (ivalid_any ⟨ya, yb, yc, yd⟩ false _ Kv.out).mono ?_
  rintro e w2 ⟨rfl, hb2⟩
  have hs2 := hb2.size
  obtain ⟨hc2, hf2⟩ := bcell hb2
  have hp2 := below_up (B := w.heap.size) (w := w) (below_up (B := w.heap.size) (w := w) (by go_grown) hb1 (by simp; omega)) hb2 (by omega)
  have z22 : w.heap.size + 1 + 1 < w2.heap.size := by omega
  go_wp2_with fail
  refine bodyPost_ret (v := .tuple #[(.agg #[.int .i64 Zw.zero.a, .int .i64 Zw.zero.b, .int .i64 Zw.zero.c, .int .i64 Zw.zero.d]), .bool false]) (by simp [results, Tryz.results153, go_sem, hc1, hc2, z12, Zw.zero]) rfl ⟨rfl, ?_⟩
  go_grown
theorem iadd_any (x y : Zw) (w : World) :
    Calls Tryz.prog 153 #[(.agg #[.int .i64 x.a, .int .i64 x.b, .int .i64 x.c, .int .i64 x.d]), (.agg #[.int .i64 y.a, .int .i64 y.b, .int .i64 y.c, .int .i64 y.d])] w fun e w' => e = .returned (.tuple #[(.agg #[.int .i64 (addV x y).a, .int .i64 (addV x y).b, .int .i64 (addV x y).c, .int .i64 (addV x y).d]), .bool (addB x y)]) ∧ Below w.heap.size w w' := by
  by_cases h : x.ok
  · by_cases k : y.ok
    · rw [show addV x y = limV (x.add y) by simp [addV, limV, h, k], show addB x y = okB (x.add y) by simp [addB, okB, h, k]]; exact iadd_yes x y w h k
    · rw [show addV x y = Zw.zero by simp [addV, k], show addB x y = false by simp [addB, k]]; exact iadd_no2 x y w h k
  · rw [show addV x y = Zw.zero by simp [addV, h], show addB x y = false by simp [addB, h]]; exact iadd_no1 x y w h
set_option maxRecDepth 100000 in
set_option maxHeartbeats 1600000 in
theorem imul_yes (x y : Zw) (w : World) (h : x.ok) (k : y.ok) :
    Calls Tryz.prog 137 #[(.agg #[.int .i64 x.a, .int .i64 x.b, .int .i64 x.c, .int .i64 x.d]), (.agg #[.int .i64 y.a, .int .i64 y.b, .int .i64 y.c, .int .i64 y.d])] w fun e w' => e = .returned (.tuple #[(.agg #[.int .i64 (limV (x.mul y)).a, .int .i64 (limV (x.mul y)).b, .int .i64 (limV (x.mul y)).c, .int .i64 (limV (x.mul y)).d]), .bool (okB (x.mul y))]) ∧ Below w.heap.size w w' := by
  obtain ⟨xa, xb, xc, xd⟩ := x
  obtain ⟨ya, yb, yc, yd⟩ := y
  have Hv := Lib.hid (okB_true.2 h)
  have Kv := Lib.hid (okB_true.2 k)
  obtain ⟨ha, hb, hc, hd⟩ := h
  obtain ⟨ka, kb, kc, kd⟩ := k
  simp only [] at ha hb hc hd ka kb kc kd
  obtain ⟨maa, naa⟩ := near_mul ha ka
  obtain ⟨mab, nab⟩ := near_mul ha kb
  obtain ⟨mac, nac⟩ := near_mul ha kc
  obtain ⟨mad, nad⟩ := near_mul ha kd
  obtain ⟨mba, nba⟩ := near_mul hb ka
  obtain ⟨mbb, nbb⟩ := near_mul hb kb
  obtain ⟨mbc, nbc⟩ := near_mul hb kc
  obtain ⟨mbd, nbd⟩ := near_mul hb kd
  obtain ⟨mca, nca⟩ := near_mul hc ka
  obtain ⟨mcb, ncb⟩ := near_mul hc kb
  obtain ⟨mcc, ncc⟩ := near_mul hc kc
  obtain ⟨mcd, ncd⟩ := near_mul hc kd
  obtain ⟨mda, nda⟩ := near_mul hd ka
  obtain ⟨mdb, ndb⟩ := near_mul hd kb
  obtain ⟨mdc, ndc⟩ := near_mul hd kc
  obtain ⟨mdd, ndd⟩ := near_mul hd kd
  obtain ⟨a0, a1⟩ := ha
  obtain ⟨b0, b1⟩ := hb
  obtain ⟨c0, c1⟩ := hc
  obtain ⟨d0, d1⟩ := hd
  obtain ⟨e0, e1⟩ := ka
  obtain ⟨f0, f1⟩ := kb
  obtain ⟨g0, g1⟩ := kc
  obtain ⟨i0, i1⟩ := kd
  have Hl := Lib.hid (ilim_any ((Zw.mk xa xb xc xd).mul ⟨ya, yb, yc, yd⟩))
  generalize limV ((Zw.mk xa xb xc xd).mul ⟨ya, yb, yc, yd⟩) = r at *
  generalize okB ((Zw.mk xa xb xc xd).mul ⟨ya, yb, yc, yd⟩) = t at *
  go_enter Tryz.func137, Tryz.ntmps137
  go_wp2_with fail
  refine (ivalid_any ⟨xa, xb, xc, xd⟩ true _ Hv.out).mono ?_
  rintro e w1 ⟨rfl, hb1⟩
  have hs1 := hb1.size
  simp at hs1
  obtain ⟨hc1, hf1⟩ := bcell hb1
  have z10 : w.heap.size < w1.heap.size := by omega
  have z11 : w.heap.size + 1 < w1.heap.size := by omega
  have z12 : w.heap.size + 1 + 1 < w1.heap.size := by omega
  go_wp2_with fail
  refine (ivalid_any ⟨ya, yb, yc, yd⟩ true _ Kv.out).mono ?_
  rintro e w2 ⟨rfl, hb2⟩
  have hs2 := hb2.size
  obtain ⟨hc2, hf2⟩ := bcell hb2
  have hp2 := below_up (B := w.heap.size) (w := w) (below_up (B := w.heap.size) (w := w) (by go_grown) hb1 (by simp; omega)) hb2 (by omega)
  have z20 : w.heap.size < w2.heap.size := by omega
  have z21 : w.heap.size + 1 < w2.heap.size := by omega
  have z22 : w.heap.size + 1 + 1 < w2.heap.size := by omega
  go_wp2_with fail
  refine (Hl.out _).mono ?_
  rintro e w3 ⟨rfl, hb3⟩
  have hs3 := hb3.size
  obtain ⟨hc3, hf3⟩ := bcell hb3
  have z30 : w.heap.size < w3.heap.size := by omega
  have z31 : w.heap.size + 1 < w3.heap.size := by omega
  have z32 : w.heap.size + 1 + 1 < w3.heap.size := by omega
  have hp3 := below_up hp2 hb3 (by omega)
  go_wp2_with fail
  refine bodyPost_ret (v := .tuple #[(.agg #[.int .i64 r.a, .int .i64 r.b, .int .i64 r.c, .int .i64 r.d]), .bool t]) (by simp [results, Tryz.results137, go_sem, hc1, hc2, hc3, z12, z22]) rfl ⟨rfl, ?_⟩
  go_grown
set_option maxRecDepth 100000 in
set_option maxHeartbeats 800000 in
theorem imul_no1 (x y : Zw) (w : World) (h : ¬ x.ok) :
    Calls Tryz.prog 137 #[(.agg #[.int .i64 x.a, .int .i64 x.b, .int .i64 x.c, .int .i64 x.d]), (.agg #[.int .i64 y.a, .int .i64 y.b, .int .i64 y.c, .int .i64 y.d])] w fun e w' => e = .returned (.tuple #[(.agg #[.int .i64 Zw.zero.a, .int .i64 Zw.zero.b, .int .i64 Zw.zero.c, .int .i64 Zw.zero.d]), .bool false]) ∧ Below w.heap.size w w' := by
  obtain ⟨xa, xb, xc, xd⟩ := x
  obtain ⟨ya, yb, yc, yd⟩ := y
  have Hv := Lib.hid (okB_false.2 h)
  clear h
  go_enter Tryz.func137, Tryz.ntmps137
  go_wp2_with fail
  refine (ivalid_any ⟨xa, xb, xc, xd⟩ false _ Hv.out).mono ?_
  rintro e w1 ⟨rfl, hb1⟩
  have hs1 := hb1.size
  simp at hs1
  obtain ⟨hc1, hf1⟩ := bcell hb1
  have z12 : w.heap.size + 1 + 1 < w1.heap.size := by omega
  have hp1 := below_up (B := w.heap.size) (w := w) (by go_grown) hb1 (by simp; omega)
  go_wp2_with fail
  refine bodyPost_ret (v := .tuple #[(.agg #[.int .i64 Zw.zero.a, .int .i64 Zw.zero.b, .int .i64 Zw.zero.c, .int .i64 Zw.zero.d]), .bool false]) (by simp [results, Tryz.results137, go_sem, hc1, Zw.zero]) rfl ⟨rfl, ?_⟩
  go_grown
set_option maxRecDepth 100000 in
set_option maxHeartbeats 800000 in
theorem imul_no2 (x y : Zw) (w : World) (h : x.ok) (k : ¬ y.ok) :
    Calls Tryz.prog 137 #[(.agg #[.int .i64 x.a, .int .i64 x.b, .int .i64 x.c, .int .i64 x.d]), (.agg #[.int .i64 y.a, .int .i64 y.b, .int .i64 y.c, .int .i64 y.d])] w fun e w' => e = .returned (.tuple #[(.agg #[.int .i64 Zw.zero.a, .int .i64 Zw.zero.b, .int .i64 Zw.zero.c, .int .i64 Zw.zero.d]), .bool false]) ∧ Below w.heap.size w w' := by
  obtain ⟨xa, xb, xc, xd⟩ := x
  obtain ⟨ya, yb, yc, yd⟩ := y
  have Hv := Lib.hid (okB_true.2 h)
  have Kv := Lib.hid (okB_false.2 k)
  clear h k
  go_enter Tryz.func137, Tryz.ntmps137
  go_wp2_with fail
  refine (ivalid_any ⟨xa, xb, xc, xd⟩ true _ Hv.out).mono ?_
  rintro e w1 ⟨rfl, hb1⟩
  have hs1 := hb1.size
  simp at hs1
  obtain ⟨hc1, hf1⟩ := bcell hb1
  have z10 : w.heap.size < w1.heap.size := by omega
  have z11 : w.heap.size + 1 < w1.heap.size := by omega
  have z12 : w.heap.size + 1 + 1 < w1.heap.size := by omega
  go_wp2_with fail
  refine (ivalid_any ⟨ya, yb, yc, yd⟩ false _ Kv.out).mono ?_
  rintro e w2 ⟨rfl, hb2⟩
  have hs2 := hb2.size
  obtain ⟨hc2, hf2⟩ := bcell hb2
  have hp2 := below_up (B := w.heap.size) (w := w) (below_up (B := w.heap.size) (w := w) (by go_grown) hb1 (by simp; omega)) hb2 (by omega)
  have z22 : w.heap.size + 1 + 1 < w2.heap.size := by omega
  go_wp2_with fail
  refine bodyPost_ret (v := .tuple #[(.agg #[.int .i64 Zw.zero.a, .int .i64 Zw.zero.b, .int .i64 Zw.zero.c, .int .i64 Zw.zero.d]), .bool false]) (by simp [results, Tryz.results137, go_sem, hc1, hc2, z12, Zw.zero]) rfl ⟨rfl, ?_⟩
  go_grown
theorem imul_any (x y : Zw) (w : World) :
    Calls Tryz.prog 137 #[(.agg #[.int .i64 x.a, .int .i64 x.b, .int .i64 x.c, .int .i64 x.d]), (.agg #[.int .i64 y.a, .int .i64 y.b, .int .i64 y.c, .int .i64 y.d])] w fun e w' => e = .returned (.tuple #[(.agg #[.int .i64 (mulV x y).a, .int .i64 (mulV x y).b, .int .i64 (mulV x y).c, .int .i64 (mulV x y).d]), .bool (mulB x y)]) ∧ Below w.heap.size w w' := by
  by_cases h : x.ok
  · by_cases k : y.ok
    · rw [show mulV x y = limV (x.mul y) by simp [mulV, limV, h, k], show mulB x y = okB (x.mul y) by simp [mulB, okB, h, k]]; exact imul_yes x y w h k
    · rw [show mulV x y = Zw.zero by simp [mulV, k], show mulB x y = false by simp [mulB, k]]; exact imul_no2 x y w h k
  · rw [show mulV x y = Zw.zero by simp [mulV, h], show mulB x y = false by simp [mulB, h]]; exact imul_no1 x y w h
set_option maxRecDepth 100000 in
set_option maxHeartbeats 1600000 in
theorem sadd_yes (x y : Zw) (w : World) (h : x.ok) (k : y.ok) :
    Calls Tryz.prog 111 #[(.agg #[.int .i64 x.a, .int .i64 x.b, .int .i64 x.c, .int .i64 x.d]), (.agg #[.int .i64 y.a, .int .i64 y.b, .int .i64 y.c, .int .i64 y.d])] w fun e w' => e = .returned (.tuple #[(.agg #[.int .i64 (limV (x.add y)).a, .int .i64 (limV (x.add y)).b, .int .i64 (limV (x.add y)).c, .int .i64 (limV (x.add y)).d]), .bool (okB (x.add y))]) ∧ Below w.heap.size w w' := by
  obtain ⟨xa, xb, xc, xd⟩ := x
  obtain ⟨ya, yb, yc, yd⟩ := y
  have Hv := Lib.hid (okB_true.2 h)
  have Kv := Lib.hid (okB_true.2 k)
  obtain ⟨ha, hb, hc, hd⟩ := h
  obtain ⟨ka, kb, kc, kd⟩ := k
  simp only [] at ha hb hc hd ka kb kc kd
  obtain ⟨a0, a1⟩ := ha
  obtain ⟨b0, b1⟩ := hb
  obtain ⟨c0, c1⟩ := hc
  obtain ⟨d0, d1⟩ := hd
  obtain ⟨e0, e1⟩ := ka
  obtain ⟨f0, f1⟩ := kb
  obtain ⟨g0, g1⟩ := kc
  obtain ⟨i0, i1⟩ := kd
  have Hl := Lib.hid (slim_any ((Zw.mk xa xb xc xd).add ⟨ya, yb, yc, yd⟩))
  generalize limV ((Zw.mk xa xb xc xd).add ⟨ya, yb, yc, yd⟩) = r at *
  generalize okB ((Zw.mk xa xb xc xd).add ⟨ya, yb, yc, yd⟩) = t at *
  go_enter Tryz.func111, Tryz.ntmps111
  go_wp2_with fail
  refine (svalid_any ⟨xa, xb, xc, xd⟩ true _ Hv.out).mono ?_
  rintro e w1 ⟨rfl, hb1⟩
  have hs1 := hb1.size
  simp at hs1
  obtain ⟨hc1, hf1⟩ := bcell hb1
  have z10 : w.heap.size < w1.heap.size := by omega
  have z11 : w.heap.size + 1 < w1.heap.size := by omega
  have z12 : w.heap.size + 1 + 1 < w1.heap.size := by omega
  go_wp2_with fail
  refine (svalid_any ⟨ya, yb, yc, yd⟩ true _ Kv.out).mono ?_
  rintro e w2 ⟨rfl, hb2⟩
  have hs2 := hb2.size
  obtain ⟨hc2, hf2⟩ := bcell hb2
  have hp2 := below_up (B := w.heap.size) (w := w) (below_up (B := w.heap.size) (w := w) (by go_grown) hb1 (by simp; omega)) hb2 (by omega)
  have z20 : w.heap.size < w2.heap.size := by omega
  have z21 : w.heap.size + 1 < w2.heap.size := by omega
  have z22 : w.heap.size + 1 + 1 < w2.heap.size := by omega
  go_wp2_with fail
  refine (Hl.out _).mono ?_
  rintro e w3 ⟨rfl, hb3⟩
  have hs3 := hb3.size
  obtain ⟨hc3, hf3⟩ := bcell hb3
  have z30 : w.heap.size < w3.heap.size := by omega
  have z31 : w.heap.size + 1 < w3.heap.size := by omega
  have z32 : w.heap.size + 1 + 1 < w3.heap.size := by omega
  have hp3 := below_up hp2 hb3 (by omega)
  go_wp2_with fail
  refine bodyPost_ret (v := .tuple #[(.agg #[.int .i64 r.a, .int .i64 r.b, .int .i64 r.c, .int .i64 r.d]), .bool t]) (by simp [results, Tryz.results111, go_sem, hc1, hc2, hc3, z12, z22]) rfl ⟨rfl, ?_⟩
  go_grown
set_option maxRecDepth 100000 in
set_option maxHeartbeats 800000 in
theorem sadd_no1 (x y : Zw) (w : World) (h : ¬ x.ok) :
    Calls Tryz.prog 111 #[(.agg #[.int .i64 x.a, .int .i64 x.b, .int .i64 x.c, .int .i64 x.d]), (.agg #[.int .i64 y.a, .int .i64 y.b, .int .i64 y.c, .int .i64 y.d])] w fun e w' => e = .returned (.tuple #[(.agg #[.int .i64 Zw.zero.a, .int .i64 Zw.zero.b, .int .i64 Zw.zero.c, .int .i64 Zw.zero.d]), .bool false]) ∧ Below w.heap.size w w' := by
  obtain ⟨xa, xb, xc, xd⟩ := x
  obtain ⟨ya, yb, yc, yd⟩ := y
  have Hv := Lib.hid (okB_false.2 h)
  clear h
  go_enter Tryz.func111, Tryz.ntmps111
  go_wp2_with fail
  refine (svalid_any ⟨xa, xb, xc, xd⟩ false _ Hv.out).mono ?_
  rintro e w1 ⟨rfl, hb1⟩
  have hs1 := hb1.size
  simp at hs1
  obtain ⟨hc1, hf1⟩ := bcell hb1
  have z12 : w.heap.size + 1 + 1 < w1.heap.size := by omega
  have hp1 := below_up (B := w.heap.size) (w := w) (by go_grown) hb1 (by simp; omega)
  go_wp2_with fail
  refine bodyPost_ret (v := .tuple #[(.agg #[.int .i64 Zw.zero.a, .int .i64 Zw.zero.b, .int .i64 Zw.zero.c, .int .i64 Zw.zero.d]), .bool false]) (by simp [results, Tryz.results111, go_sem, hc1, Zw.zero]) rfl ⟨rfl, ?_⟩
  go_grown
set_option maxRecDepth 100000 in
set_option maxHeartbeats 800000 in
theorem sadd_no2 (x y : Zw) (w : World) (h : x.ok) (k : ¬ y.ok) :
    Calls Tryz.prog 111 #[(.agg #[.int .i64 x.a, .int .i64 x.b, .int .i64 x.c, .int .i64 x.d]), (.agg #[.int .i64 y.a, .int .i64 y.b, .int .i64 y.c, .int .i64 y.d])] w fun e w' => e = .returned (.tuple #[(.agg #[.int .i64 Zw.zero.a, .int .i64 Zw.zero.b, .int .i64 Zw.zero.c, .int .i64 Zw.zero.d]), .bool false]) ∧ Below w.heap.size w w' := by
  obtain ⟨xa, xb, xc, xd⟩ := x
  obtain ⟨ya, yb, yc, yd⟩ := y
  have Hv := Lib.hid (okB_true.2 h)
  have Kv := Lib.hid (okB_false.2 k)
  clear h k
  go_enter Tryz.func111, Tryz.ntmps111
  go_wp2_with fail
  refine (svalid_any ⟨xa, xb, xc, xd⟩ true _ Hv.out).mono ?_
  rintro e w1 ⟨rfl, hb1⟩
  have hs1 := hb1.size
  simp at hs1
  obtain ⟨hc1, hf1⟩ := bcell hb1
  have z10 : w.heap.size < w1.heap.size := by omega
  have z11 : w.heap.size + 1 < w1.heap.size := by omega
  have z12 : w.heap.size + 1 + 1 < w1.heap.size := by omega
  go_wp2_with fail
  refine (svalid_any ⟨ya, yb, yc, yd⟩ false _ Kv.out).mono ?_
  rintro e w2 ⟨rfl, hb2⟩
  have hs2 := hb2.size
  obtain ⟨hc2, hf2⟩ := bcell hb2
  have hp2 := below_up (B := w.heap.size) (w := w) (below_up (B := w.heap.size) (w := w) (by go_grown) hb1 (by simp; omega)) hb2 (by omega)
  have z22 : w.heap.size + 1 + 1 < w2.heap.size := by omega
  go_wp2_with fail
  refine bodyPost_ret (v := .tuple #[(.agg #[.int .i64 Zw.zero.a, .int .i64 Zw.zero.b, .int .i64 Zw.zero.c, .int .i64 Zw.zero.d]), .bool false]) (by simp [results, Tryz.results111, go_sem, hc1, hc2, z12, Zw.zero]) rfl ⟨rfl, ?_⟩
  go_grown
theorem sadd_any (x y : Zw) (w : World) :
    Calls Tryz.prog 111 #[(.agg #[.int .i64 x.a, .int .i64 x.b, .int .i64 x.c, .int .i64 x.d]), (.agg #[.int .i64 y.a, .int .i64 y.b, .int .i64 y.c, .int .i64 y.d])] w fun e w' => e = .returned (.tuple #[(.agg #[.int .i64 (addV x y).a, .int .i64 (addV x y).b, .int .i64 (addV x y).c, .int .i64 (addV x y).d]), .bool (addB x y)]) ∧ Below w.heap.size w w' := by
  by_cases h : x.ok
  · by_cases k : y.ok
    · rw [show addV x y = limV (x.add y) by simp [addV, limV, h, k], show addB x y = okB (x.add y) by simp [addB, okB, h, k]]; exact sadd_yes x y w h k
    · rw [show addV x y = Zw.zero by simp [addV, k], show addB x y = false by simp [addB, k]]; exact sadd_no2 x y w h k
  · rw [show addV x y = Zw.zero by simp [addV, h], show addB x y = false by simp [addB, h]]; exact sadd_no1 x y w h
set_option maxRecDepth 100000 in
set_option maxHeartbeats 1600000 in
theorem smul_yes (x y : Zw) (w : World) (h : x.ok) (k : y.ok) :
    Calls Tryz.prog 107 #[(.agg #[.int .i64 x.a, .int .i64 x.b, .int .i64 x.c, .int .i64 x.d]), (.agg #[.int .i64 y.a, .int .i64 y.b, .int .i64 y.c, .int .i64 y.d])] w fun e w' => e = .returned (.tuple #[(.agg #[.int .i64 (limV (x.mul y)).a, .int .i64 (limV (x.mul y)).b, .int .i64 (limV (x.mul y)).c, .int .i64 (limV (x.mul y)).d]), .bool (okB (x.mul y))]) ∧ Below w.heap.size w w' := by
  obtain ⟨xa, xb, xc, xd⟩ := x
  obtain ⟨ya, yb, yc, yd⟩ := y
  have Hv := Lib.hid (okB_true.2 h)
  have Kv := Lib.hid (okB_true.2 k)
  obtain ⟨ha, hb, hc, hd⟩ := h
  obtain ⟨ka, kb, kc, kd⟩ := k
  simp only [] at ha hb hc hd ka kb kc kd
  obtain ⟨maa, naa⟩ := near_mul ha ka
  obtain ⟨mab, nab⟩ := near_mul ha kb
  obtain ⟨mac, nac⟩ := near_mul ha kc
  obtain ⟨mad, nad⟩ := near_mul ha kd
  obtain ⟨mba, nba⟩ := near_mul hb ka
  obtain ⟨mbb, nbb⟩ := near_mul hb kb
  obtain ⟨mbc, nbc⟩ := near_mul hb kc
  obtain ⟨mbd, nbd⟩ := near_mul hb kd
  obtain ⟨mca, nca⟩ := near_mul hc ka
  obtain ⟨mcb, ncb⟩ := near_mul hc kb
  obtain ⟨mcc, ncc⟩ := near_mul hc kc
  obtain ⟨mcd, ncd⟩ := near_mul hc kd
  obtain ⟨mda, nda⟩ := near_mul hd ka
  obtain ⟨mdb, ndb⟩ := near_mul hd kb
  obtain ⟨mdc, ndc⟩ := near_mul hd kc
  obtain ⟨mdd, ndd⟩ := near_mul hd kd
  obtain ⟨a0, a1⟩ := ha
  obtain ⟨b0, b1⟩ := hb
  obtain ⟨c0, c1⟩ := hc
  obtain ⟨d0, d1⟩ := hd
  obtain ⟨e0, e1⟩ := ka
  obtain ⟨f0, f1⟩ := kb
  obtain ⟨g0, g1⟩ := kc
  obtain ⟨i0, i1⟩ := kd
  have Hl := Lib.hid (slim_any ((Zw.mk xa xb xc xd).mul ⟨ya, yb, yc, yd⟩))
  generalize limV ((Zw.mk xa xb xc xd).mul ⟨ya, yb, yc, yd⟩) = r at *
  generalize okB ((Zw.mk xa xb xc xd).mul ⟨ya, yb, yc, yd⟩) = t at *
  go_enter Tryz.func107, Tryz.ntmps107
  go_wp2_with fail
  refine (svalid_any ⟨xa, xb, xc, xd⟩ true _ Hv.out).mono ?_
  rintro e w1 ⟨rfl, hb1⟩
  have hs1 := hb1.size
  simp at hs1
  obtain ⟨hc1, hf1⟩ := bcell hb1
  have z10 : w.heap.size < w1.heap.size := by omega
  have z11 : w.heap.size + 1 < w1.heap.size := by omega
  have z12 : w.heap.size + 1 + 1 < w1.heap.size := by omega
  go_wp2_with fail
  refine (svalid_any ⟨ya, yb, yc, yd⟩ true _ Kv.out).mono ?_
  rintro e w2 ⟨rfl, hb2⟩
  have hs2 := hb2.size
  obtain ⟨hc2, hf2⟩ := bcell hb2
  have hp2 := below_up (B := w.heap.size) (w := w) (below_up (B := w.heap.size) (w := w) (by go_grown) hb1 (by simp; omega)) hb2 (by omega)
  have z20 : w.heap.size < w2.heap.size := by omega
  have z21 : w.heap.size + 1 < w2.heap.size := by omega
  have z22 : w.heap.size + 1 + 1 < w2.heap.size := by omega
  go_wp2_with fail
  refine (Hl.out _).mono ?_
  rintro e w3 ⟨rfl, hb3⟩
  have hs3 := hb3.size
  obtain ⟨hc3, hf3⟩ := bcell hb3
  have z30 : w.heap.size < w3.heap.size := by omega
  have z31 : w.heap.size + 1 < w3.heap.size := by omega
  have z32 : w.heap.size + 1 + 1 < w3.heap.size := by omega
  have hp3 := below_up hp2 hb3 (by omega)
  go_wp2_with fail
  refine bodyPost_ret (v := .tuple #[(.agg #[.int .i64 r.a, .int .i64 r.b, .int .i64 r.c, .int .i64 r.d]), .bool t]) (by simp [results, Tryz.results107, go_sem, hc1, hc2, hc3, z12, z22]) rfl ⟨rfl, ?_⟩
  go_grown
set_option maxRecDepth 100000 in
set_option maxHeartbeats 800000 in
theorem smul_no1 (x y : Zw) (w : World) (h : ¬ x.ok) :
    Calls Tryz.prog 107 #[(.agg #[.int .i64 x.a, .int .i64 x.b, .int .i64 x.c, .int .i64 x.d]), (.agg #[.int .i64 y.a, .int .i64 y.b, .int .i64 y.c, .int .i64 y.d])] w fun e w' => e = .returned (.tuple #[(.agg #[.int .i64 Zw.zero.a, .int .i64 Zw.zero.b, .int .i64 Zw.zero.c, .int .i64 Zw.zero.d]), .bool false]) ∧ Below w.heap.size w w' := by
  obtain ⟨xa, xb, xc, xd⟩ := x
  obtain ⟨ya, yb, yc, yd⟩ := y
  have Hv := Lib.hid (okB_false.2 h)
  clear h
  go_enter Tryz.func107, Tryz.ntmps107
  go_wp2_with fail
  refine (svalid_any ⟨xa, xb, xc, xd⟩ false _ Hv.out).mono ?_
  rintro e w1 ⟨rfl, hb1⟩
  have hs1 := hb1.size
  simp at hs1
  obtain ⟨hc1, hf1⟩ := bcell hb1
  have z12 : w.heap.size + 1 + 1 < w1.heap.size := by omega
  have hp1 := below_up (B := w.heap.size) (w := w) (by go_grown) hb1 (by simp; omega)
  go_wp2_with fail
  refine bodyPost_ret (v := .tuple #[(.agg #[.int .i64 Zw.zero.a, .int .i64 Zw.zero.b, .int .i64 Zw.zero.c, .int .i64 Zw.zero.d]), .bool false]) (by simp [results, Tryz.results107, go_sem, hc1, Zw.zero]) rfl ⟨rfl, ?_⟩
  go_grown
set_option maxRecDepth 100000 in
set_option maxHeartbeats 800000 in
theorem smul_no2 (x y : Zw) (w : World) (h : x.ok) (k : ¬ y.ok) :
    Calls Tryz.prog 107 #[(.agg #[.int .i64 x.a, .int .i64 x.b, .int .i64 x.c, .int .i64 x.d]), (.agg #[.int .i64 y.a, .int .i64 y.b, .int .i64 y.c, .int .i64 y.d])] w fun e w' => e = .returned (.tuple #[(.agg #[.int .i64 Zw.zero.a, .int .i64 Zw.zero.b, .int .i64 Zw.zero.c, .int .i64 Zw.zero.d]), .bool false]) ∧ Below w.heap.size w w' := by
  obtain ⟨xa, xb, xc, xd⟩ := x
  obtain ⟨ya, yb, yc, yd⟩ := y
  have Hv := Lib.hid (okB_true.2 h)
  have Kv := Lib.hid (okB_false.2 k)
  clear h k
  go_enter Tryz.func107, Tryz.ntmps107
  go_wp2_with fail
  refine (svalid_any ⟨xa, xb, xc, xd⟩ true _ Hv.out).mono ?_
  rintro e w1 ⟨rfl, hb1⟩
  have hs1 := hb1.size
  simp at hs1
  obtain ⟨hc1, hf1⟩ := bcell hb1
  have z10 : w.heap.size < w1.heap.size := by omega
  have z11 : w.heap.size + 1 < w1.heap.size := by omega
  have z12 : w.heap.size + 1 + 1 < w1.heap.size := by omega
  go_wp2_with fail
  refine (svalid_any ⟨ya, yb, yc, yd⟩ false _ Kv.out).mono ?_
  rintro e w2 ⟨rfl, hb2⟩
  have hs2 := hb2.size
  obtain ⟨hc2, hf2⟩ := bcell hb2
  have hp2 := below_up (B := w.heap.size) (w := w) (below_up (B := w.heap.size) (w := w) (by go_grown) hb1 (by simp; omega)) hb2 (by omega)
  have z22 : w.heap.size + 1 + 1 < w2.heap.size := by omega
  go_wp2_with fail
  refine bodyPost_ret (v := .tuple #[(.agg #[.int .i64 Zw.zero.a, .int .i64 Zw.zero.b, .int .i64 Zw.zero.c, .int .i64 Zw.zero.d]), .bool false]) (by simp [results, Tryz.results107, go_sem, hc1, hc2, z12, Zw.zero]) rfl ⟨rfl, ?_⟩
  go_grown
theorem smul_any (x y : Zw) (w : World) :
    Calls Tryz.prog 107 #[(.agg #[.int .i64 x.a, .int .i64 x.b, .int .i64 x.c, .int .i64 x.d]), (.agg #[.int .i64 y.a, .int .i64 y.b, .int .i64 y.c, .int .i64 y.d])] w fun e w' => e = .returned (.tuple #[(.agg #[.int .i64 (mulV x y).a, .int .i64 (mulV x y).b, .int .i64 (mulV x y).c, .int .i64 (mulV x y).d]), .bool (mulB x y)]) ∧ Below w.heap.size w w' := by
  by_cases h : x.ok
  · by_cases k : y.ok
    · rw [show mulV x y = limV (x.mul y) by simp [mulV, limV, h, k], show mulB x y = okB (x.mul y) by simp [mulB, okB, h, k]]; exact smul_yes x y w h k
    · rw [show mulV x y = Zw.zero by simp [mulV, k], show mulB x y = false by simp [mulB, k]]; exact smul_no2 x y w h k
  · rw [show mulV x y = Zw.zero by simp [mulV, h], show mulB x y = false by simp [mulB, h]]; exact smul_no1 x y w h
end Go.Proofs.YtlmiebeffdcfhaaGreat
