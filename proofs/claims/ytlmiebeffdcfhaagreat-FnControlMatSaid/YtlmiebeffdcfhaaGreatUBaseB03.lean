/- BaseB03: several of our texts in one: ZwA ZwD ZwE ZwM DwM. -/
import Derived.Test.YtlmiebeffdcfhaaGreatUBaseB02
import Derived.Laws.StructEq
import Derived.Deep.RegionHeld3
namespace Go.Proofs.YtlmiebeffdcfhaaGreat
open Go.RowKit
attribute [local irreducible] World.cell?
theorem below_up {B : Nat} {w w1 w2 : World} (h1 : Below B w w1) (h2 : Below w1.heap.size w1 w2) (hB : B ≤ w1.heap.size) : Below B w w2 := h1.trans (h2.mono hB)
set_option maxRecDepth 100000 in
set_option maxHeartbeats 800000 in
theorem iconj_yes (x : Zw) (w : World) (h : x.ok) :
    Calls Tryz.prog 125 #[(.agg #[.int .i64 x.a, .int .i64 x.b, .int .i64 x.c, .int .i64 x.d])] w fun e w' => e = .returned (.agg #[.int .i64 x.conj.a, .int .i64 x.conj.b, .int .i64 x.conj.c, .int .i64 x.conj.d]) ∧ Below w.heap.size w w' := by
  obtain ⟨a, b, c, d⟩ := x
  have Hv := Lib.hid (okB_true.2 h)
  obtain ⟨⟨a0, a1⟩, ⟨b0, b1⟩, ⟨c0, c1⟩, ⟨d0, d1⟩⟩ := h
  simp only [] at a0 a1 b0 b1 c0 c1 d0 d1
  go_enter Tryz.func125, Tryz.ntmps125
  go_wp2_with fail
  refine (ivalid_any ⟨a, b, c, d⟩ true _ Hv.out).mono ?_
  rintro e w1 ⟨rfl, hb1⟩
  have hs1 := hb1.size
  simp at hs1
  obtain ⟨hc, hf⟩ := bcell hb1
  go_wp2_with fail
  refine bodyPost_ret (v := (.agg #[.int .i64 ((Zw.mk a b c d).conj).a, .int .i64 ((Zw.mk a b c d).conj).b, .int .i64 ((Zw.mk a b c d).conj).c, .int .i64 ((Zw.mk a b c d).conj).d])) (by simp [results, Tryz.results125, go_sem, hc, Zw.conj]) rfl ⟨rfl, ?_⟩
  have hb2 := below_up (B := w.heap.size) (w := w) (by go_grown) hb1 (by simp; omega)
  go_grown
set_option maxRecDepth 100000 in
set_option maxHeartbeats 800000 in
theorem iconj_no (x : Zw) (w : World) (h : ¬ x.ok) :
    Calls Tryz.prog 125 #[(.agg #[.int .i64 x.a, .int .i64 x.b, .int .i64 x.c, .int .i64 x.d])] w fun e w' => e = .returned (.agg #[.int .i64 Zw.zero.a, .int .i64 Zw.zero.b, .int .i64 Zw.zero.c, .int .i64 Zw.zero.d]) ∧ Below w.heap.size w w' := by
  obtain ⟨a, b, c, d⟩ := x
  have Hv := Lib.hid (okB_false.2 h)
  clear h
  go_enter Tryz.func125, Tryz.ntmps125
  go_wp2_with fail
  refine (ivalid_any ⟨a, b, c, d⟩ false _ Hv.out).mono ?_
  rintro e w1 ⟨rfl, hb1⟩
  have hs1 := hb1.size
  simp at hs1
  obtain ⟨hc, hf⟩ := bcell hb1
  go_wp2_with fail
  refine bodyPost_ret (v := (.agg #[.int .i64 Zw.zero.a, .int .i64 Zw.zero.b, .int .i64 Zw.zero.c, .int .i64 Zw.zero.d])) (by simp [results, Tryz.results125, go_sem, hc, Zw.zero]) rfl ⟨rfl, ?_⟩
  have hb2 := below_up (B := w.heap.size) (w := w) (by go_grown) hb1 (by simp; omega)
  go_grown
theorem iconj_any (x : Zw) (w : World) :
    Calls Tryz.prog 125 #[(.agg #[.int .i64 x.a, .int .i64 x.b, .int .i64 x.c, .int .i64 x.d])] w fun e w' => e = .returned (.agg #[.int .i64 (conjV x).a, .int .i64 (conjV x).b, .int .i64 (conjV x).c, .int .i64 (conjV x).d]) ∧ Below w.heap.size w w' := by
  unfold conjV
  by_cases h : x.ok
  · rw [if_pos h]; exact iconj_yes x w h
  · rw [if_neg h]; exact iconj_no x w h
set_option maxRecDepth 100000 in
set_option maxHeartbeats 800000 in
theorem sneg_yes (x : Zw) (w : World) (h : x.ok) :
    Calls Tryz.prog 131 #[(.agg #[.int .i64 x.a, .int .i64 x.b, .int .i64 x.c, .int .i64 x.d])] w fun e w' => e = .returned (.agg #[.int .i64 x.neg.a, .int .i64 x.neg.b, .int .i64 x.neg.c, .int .i64 x.neg.d]) ∧ Below w.heap.size w w' := by
  obtain ⟨a, b, c, d⟩ := x
  have Hv := Lib.hid (okB_true.2 h)
  obtain ⟨⟨a0, a1⟩, ⟨b0, b1⟩, ⟨c0, c1⟩, ⟨d0, d1⟩⟩ := h
  simp only [] at a0 a1 b0 b1 c0 c1 d0 d1
  go_enter Tryz.func131, Tryz.ntmps131
  go_wp2_with fail
  refine (svalid_any ⟨a, b, c, d⟩ true _ Hv.out).mono ?_
  rintro e w1 ⟨rfl, hb1⟩
  have hs1 := hb1.size
  simp at hs1
  obtain ⟨hc, hf⟩ := bcell hb1
  go_wp2_with fail
  refine bodyPost_ret (v := (.agg #[.int .i64 ((Zw.mk a b c d).neg).a, .int .i64 ((Zw.mk a b c d).neg).b, .int .i64 ((Zw.mk a b c d).neg).c, .int .i64 ((Zw.mk a b c d).neg).d])) (by simp [results, Tryz.results131, go_sem, hc, Zw.neg]) rfl ⟨rfl, ?_⟩
  have hb2 := below_up (B := w.heap.size) (w := w) (by go_grown) hb1 (by simp; omega)
  go_grown
set_option maxRecDepth 100000 in
set_option maxHeartbeats 800000 in
theorem sneg_no (x : Zw) (w : World) (h : ¬ x.ok) :
    Calls Tryz.prog 131 #[(.agg #[.int .i64 x.a, .int .i64 x.b, .int .i64 x.c, .int .i64 x.d])] w fun e w' => e = .returned (.agg #[.int .i64 Zw.zero.a, .int .i64 Zw.zero.b, .int .i64 Zw.zero.c, .int .i64 Zw.zero.d]) ∧ Below w.heap.size w w' := by
  obtain ⟨a, b, c, d⟩ := x
  have Hv := Lib.hid (okB_false.2 h)
  clear h
  go_enter Tryz.func131, Tryz.ntmps131
  go_wp2_with fail
  refine (svalid_any ⟨a, b, c, d⟩ false _ Hv.out).mono ?_
  rintro e w1 ⟨rfl, hb1⟩
  have hs1 := hb1.size
  simp at hs1
  obtain ⟨hc, hf⟩ := bcell hb1
  go_wp2_with fail
  refine bodyPost_ret (v := (.agg #[.int .i64 Zw.zero.a, .int .i64 Zw.zero.b, .int .i64 Zw.zero.c, .int .i64 Zw.zero.d])) (by simp [results, Tryz.results131, go_sem, hc, Zw.zero]) rfl ⟨rfl, ?_⟩
  have hb2 := below_up (B := w.heap.size) (w := w) (by go_grown) hb1 (by simp; omega)
  go_grown
theorem sneg_any (x : Zw) (w : World) :
    Calls Tryz.prog 131 #[(.agg #[.int .i64 x.a, .int .i64 x.b, .int .i64 x.c, .int .i64 x.d])] w fun e w' => e = .returned (.agg #[.int .i64 (negV x).a, .int .i64 (negV x).b, .int .i64 (negV x).c, .int .i64 (negV x).d]) ∧ Below w.heap.size w w' := by
  unfold negV
  by_cases h : x.ok
  · rw [if_pos h]; exact sneg_yes x w h
  · rw [if_neg h]; exact sneg_no x w h
set_option maxRecDepth 100000 in
set_option maxHeartbeats 800000 in
theorem sconj_yes (x : Zw) (w : World) (h : x.ok) :
    Calls Tryz.prog 121 #[(.agg #[.int .i64 x.a, .int .i64 x.b, .int .i64 x.c, .int .i64 x.d])] w fun e w' => e = .returned (.agg #[.int .i64 x.conj.a, .int .i64 x.conj.b, .int .i64 x.conj.c, .int .i64 x.conj.d]) ∧ Below w.heap.size w w' := by
  obtain ⟨a, b, c, d⟩ := x
  have Hv := Lib.hid (okB_true.2 h)
  obtain ⟨⟨a0, a1⟩, ⟨b0, b1⟩, ⟨c0, c1⟩, ⟨d0, d1⟩⟩ := h
  simp only [] at a0 a1 b0 b1 c0 c1 d0 d1
  go_enter Tryz.func121, Tryz.ntmps121
  go_wp2_with fail
  refine (svalid_any ⟨a, b, c, d⟩ true _ Hv.out).mono ?_
  rintro e w1 ⟨rfl, hb1⟩
  have hs1 := hb1.size
  simp at hs1
  obtain ⟨hc, hf⟩ := bcell hb1
  go_wp2_with fail
  refine bodyPost_ret (v := (.agg #[.int .i64 ((Zw.mk a b c d).conj).a, .int .i64 ((Zw.mk a b c d).conj).b, .int .i64 ((Zw.mk a b c d).conj).c, .int .i64 ((Zw.mk a b c d).conj).d])) (by simp [results, Tryz.results121, go_sem, hc, Zw.conj]) rfl ⟨rfl, ?_⟩
  have hb2 := below_up (B := w.heap.size) (w := w) (by go_grown) hb1 (by simp; omega)
  go_grown
set_option maxRecDepth 100000 in
set_option maxHeartbeats 800000 in
theorem sconj_no (x : Zw) (w : World) (h : ¬ x.ok) :
    Calls Tryz.prog 121 #[(.agg #[.int .i64 x.a, .int .i64 x.b, .int .i64 x.c, .int .i64 x.d])] w fun e w' => e = .returned (.agg #[.int .i64 Zw.zero.a, .int .i64 Zw.zero.b, .int .i64 Zw.zero.c, .int .i64 Zw.zero.d]) ∧ Below w.heap.size w w' := by
  obtain ⟨a, b, c, d⟩ := x
  have Hv := Lib.hid (okB_false.2 h)
  clear h
  go_enter Tryz.func121, Tryz.ntmps121
  go_wp2_with fail
  refine (svalid_any ⟨a, b, c, d⟩ false _ Hv.out).mono ?_
  rintro e w1 ⟨rfl, hb1⟩
  have hs1 := hb1.size
  simp at hs1
  obtain ⟨hc, hf⟩ := bcell hb1
  go_wp2_with fail
  refine bodyPost_ret (v := (.agg #[.int .i64 Zw.zero.a, .int .i64 Zw.zero.b, .int .i64 Zw.zero.c, .int .i64 Zw.zero.d])) (by simp [results, Tryz.results121, go_sem, hc, Zw.zero]) rfl ⟨rfl, ?_⟩
  have hb2 := below_up (B := w.heap.size) (w := w) (by go_grown) hb1 (by simp; omega)
  go_grown
theorem sconj_any (x : Zw) (w : World) :
    Calls Tryz.prog 121 #[(.agg #[.int .i64 x.a, .int .i64 x.b, .int .i64 x.c, .int .i64 x.d])] w fun e w' => e = .returned (.agg #[.int .i64 (conjV x).a, .int .i64 (conjV x).b, .int .i64 (conjV x).c, .int .i64 (conjV x).d]) ∧ Below w.heap.size w w' := by
  unfold conjV
  by_cases h : x.ok
  · rw [if_pos h]; exact sconj_yes x w h
  · rw [if_neg h]; exact sconj_no x w h
end Go.Proofs.YtlmiebeffdcfhaaGreat
namespace Go.Proofs.YtlmiebeffdcfhaaGreat
open Go.RowKit
attribute [local irreducible] World.cell?
/-! Plain numbers. -/
theorem tdiv2 (r : Int) : 2 * r.tdiv 2 + r.tmod 2 = r ∧ -1 ≤ r.tmod 2 ∧ r.tmod 2 ≤ 1 := by
  have h := Int.mul_tdiv_add_tmod r 2
  have h1 := Int.tmod_lt_of_pos r (show (0 : Int) < 2 by omega)
  have h2 := Int.lt_tmod_of_pos r (show (0 : Int) < 2 by omega)
  omega
theorem tmod2 (r : Int) : r.tmod 2 = 0 ↔ r % 2 = 0 := by
  have h := tdiv2 r
  omega
def Zw.thalf (x : Zw) : Zw := ⟨x.a.tdiv 2, x.b.tdiv 2, x.c.tdiv 2, x.d.tdiv 2⟩
theorem thalf_root {x : Zw} : x.root.thalf.root = x ↔ x.root.even := by
  obtain ⟨a, b, c, d⟩ := x
  have h1 := tdiv2 (b - d)
  have h2 := tdiv2 (a + c)
  have h3 := tdiv2 (b + d)
  have h4 := tdiv2 (c - a)
  simp only [Zw.root, Zw.thalf, Zw.even, Zw.mk.injEq]
  omega
theorem thalf_half {x : Zw} (h : x.even) : x.thalf = x.half := by
  obtain ⟨a, b, c, d⟩ := x
  have h1 := tdiv2 a
  have h2 := tdiv2 b
  have h3 := tdiv2 c
  have h4 := tdiv2 d
  simp only [Zw.thalf, Zw.even, Zw.half, Zw.mk.injEq] at *
  omega
theorem thalf_ok {x : Zw} (h : x.ok) : x.root.thalf.ok := by
  obtain ⟨a, b, c, d⟩ := x
  have h1 := tdiv2 (b - d)
  have h2 := tdiv2 (a + c)
  have h3 := tdiv2 (b + d)
  have h4 := tdiv2 (c - a)
  simp only [Zw.root, Zw.thalf, Zw.ok, Near] at *
  omega
/-- Two arrays of four integers are compared. -/
theorem size3 (w : World) : (sizeOf 3).run Tryz.prog w = .ok 1 w := by kernel_rfl
set_option maxRecDepth 100000 in
set_option maxHeartbeats 400000 in
theorem eq4 (x y : Zw) (w : World) : (binOp .neq 156 (.agg #[.int .i64 x.a, .int .i64 x.b, .int .i64 x.c, .int .i64 x.d]) (.agg #[.int .i64 y.a, .int .i64 y.b, .int .i64 y.c, .int .i64 y.d])).run Tryz.prog w = .ok (.bool (!(decide (x.a = y.a) && decide (x.b = y.b) && decide (x.c = y.c) && decide (x.d = y.d)))) w := by
  rw [run_neq_struct, Op.equalIn]
  simp only [Sem.run_bind, run_underlying Tryz.underlying156, Result.andThen_ok, size3]
  have pe : ∀ (u v : Int) (w : World), (Op.equalIn 9999 3 (.int .i64 u) (.int .i64 v)).run Tryz.prog w = .ok (u == v) w := fun u v w => run_equalIn_int w 9998 3 .i64 .i64 u v Tryz.underlying3
  have pp : ∀ (cs : Array Value) (i : Nat) (u : Value) (w : World), cs[i]? = some u → (part 3 cs i).run Tryz.prog w = .ok u w := by
    intro cs i u w hu
    simp [part, isAgg, run_underlying Tryz.underlying3, hu]
  simp only [Std.Legacy.Range.forIn_eq_forIn_range', Std.Legacy.Range.size, Nat.sub_zero, Nat.add_sub_cancel, Nat.div_one, List.range', List.forIn_cons, List.forIn_nil, Sem.run_bind]
  have eb : ∀ u v : Int, (u == v) = decide (u = v) := fun _ _ => rfl
  rw [pp _ (0 * 1) (.int .i64 x.a) _ rfl]
  simp only [Result.andThen_ok]
  rw [pp _ (0 * 1) (.int .i64 y.a) _ rfl]
  simp only [Result.andThen_ok]
  rw [pe, eb]
  cases decide (x.a = y.a)
  · simp
  simp only [Result.andThen_ok, Bool.not_true, Bool.false_eq_true, if_false, Sem.run_pure, Sem.run_bind]
  rw [pp _ ((0 + 1) * 1) (.int .i64 x.b) _ rfl]
  simp only [Result.andThen_ok]
  rw [pp _ ((0 + 1) * 1) (.int .i64 y.b) _ rfl]
  simp only [Result.andThen_ok]
  rw [pe, eb]
  cases decide (x.b = y.b)
  · simp
  simp only [Result.andThen_ok, Bool.not_true, Bool.false_eq_true, if_false, Sem.run_pure, Sem.run_bind]
  rw [pp _ ((0 + 1 + 1) * 1) (.int .i64 x.c) _ rfl]
  simp only [Result.andThen_ok]
  rw [pp _ ((0 + 1 + 1) * 1) (.int .i64 y.c) _ rfl]
  simp only [Result.andThen_ok]
  rw [pe, eb]
  cases decide (x.c = y.c)
  · simp
  simp only [Result.andThen_ok, Bool.not_true, Bool.false_eq_true, if_false, Sem.run_pure, Sem.run_bind]
  rw [pp _ ((0 + 1 + 1 + 1) * 1) (.int .i64 x.d) _ rfl]
  simp only [Result.andThen_ok]
  rw [pp _ ((0 + 1 + 1 + 1) * 1) (.int .i64 y.d) _ rfl]
  simp only [Result.andThen_ok]
  rw [pe, eb]
  cases decide (x.d = y.d)
  · simp
  simp
set_option maxRecDepth 100000 in
set_option maxHeartbeats 400000 in
theorem elem (x : Zw) (w : World) :
    Calls Tryz.prog 162 #[(.agg #[.int .i64 x.a, .int .i64 x.b, .int .i64 x.c, .int .i64 x.d])] w fun e w' => e = .returned (.agg #[.int .i64 x.a, .int .i64 x.b, .int .i64 x.c, .int .i64 x.d]) ∧ Below w.heap.size w w' := by
  go_enter Tryz.func162, Tryz.ntmps162
  go_wp2_with fail
  go_returns
  exact ⟨rfl, by go_grown⟩
set_option maxRecDepth 100000 in
set_option maxHeartbeats 400000 in
theorem tsq (x : Zw) (w : World) (h : x.ok) :
    Calls Tryz.prog 161 #[(.agg #[.int .i64 x.a, .int .i64 x.b, .int .i64 x.c, .int .i64 x.d])] w fun e w' => e = .returned (.agg #[.int .i64 x.root.a, .int .i64 x.root.b, .int .i64 x.root.c, .int .i64 x.root.d]) ∧ Below w.heap.size w w' := by
  obtain ⟨a, b, c, d⟩ := x
  obtain ⟨⟨a0, a1⟩, ⟨b0, b1⟩, ⟨c0, c1⟩, ⟨d0, d1⟩⟩ := h
  simp only [] at a0 a1 b0 b1 c0 c1 d0 d1
  go_enter Tryz.func161, Tryz.ntmps161
  go_wp2_with fail
  go_returns
  exact ⟨rfl, by go_grown⟩
set_option maxRecDepth 100000 in
set_option maxHeartbeats 800000 in
theorem halv (x : Zw) (w : World) (h : x.i64) :
    Calls Tryz.prog 160 #[(.agg #[.int .i64 x.a, .int .i64 x.b, .int .i64 x.c, .int .i64 x.d])] w fun e w' => e = .returned (.agg #[.int .i64 x.thalf.a, .int .i64 x.thalf.b, .int .i64 x.thalf.c, .int .i64 x.thalf.d]) ∧ Below w.heap.size w w' := by
  obtain ⟨a, b, c, d⟩ := x
  obtain ⟨⟨a0, a1⟩, ⟨b0, b1⟩, ⟨c0, c1⟩, ⟨d0, d1⟩⟩ := h
  simp only [] at a0 a1 b0 b1 c0 c1 d0 d1
  go_enter Tryz.func160, Tryz.ntmps160
  go_wp2_with fail
  go_rounds 5
  go_returns
  exact ⟨rfl, by go_grown⟩
end Go.Proofs.YtlmiebeffdcfhaaGreat
namespace Go.Proofs.YtlmiebeffdcfhaaGreat
open Go.RowKit
attribute [local irreducible] World.cell?
set_option maxRecDepth 100000 in
set_option maxHeartbeats 1600000 in
theorem idiv_yes (x p q r : Zw) (w : World)
    (hv : ∀ w, Calls Tryz.prog 139 #[(.agg #[.int .i64 x.a, .int .i64 x.b, .int .i64 x.c, .int .i64 x.d])] w fun e w' => e = .returned (.bool true) ∧ Below w.heap.size w w')
    (ht : ∀ w, Calls Tryz.prog 161 #[(.agg #[.int .i64 x.a, .int .i64 x.b, .int .i64 x.c, .int .i64 x.d])] w fun e w' => e = .returned (.agg #[.int .i64 p.a, .int .i64 p.b, .int .i64 p.c, .int .i64 p.d]) ∧ Below w.heap.size w w')
    (hh : ∀ w, Calls Tryz.prog 160 #[(.agg #[.int .i64 p.a, .int .i64 p.b, .int .i64 p.c, .int .i64 p.d])] w fun e w' => e = .returned (.agg #[.int .i64 q.a, .int .i64 q.b, .int .i64 q.c, .int .i64 q.d]) ∧ Below w.heap.size w w')
    (hq : ∀ w, Calls Tryz.prog 161 #[(.agg #[.int .i64 q.a, .int .i64 q.b, .int .i64 q.c, .int .i64 q.d])] w fun e w' => e = .returned (.agg #[.int .i64 r.a, .int .i64 r.b, .int .i64 r.c, .int .i64 r.d]) ∧ Below w.heap.size w w')
    (hn : ∀ w, (binOp .neq 156 (.agg #[.int .i64 r.a, .int .i64 r.b, .int .i64 r.c, .int .i64 r.d]) (.agg #[.int .i64 x.a, .int .i64 x.b, .int .i64 x.c, .int .i64 x.d])).run Tryz.prog w = .ok (.bool false) w) :
    Calls Tryz.prog 155 #[(.agg #[.int .i64 x.a, .int .i64 x.b, .int .i64 x.c, .int .i64 x.d])] w fun e w' => e = .returned (.tuple #[(.agg #[.int .i64 q.a, .int .i64 q.b, .int .i64 q.c, .int .i64 q.d]), .bool true]) ∧ Below w.heap.size w w' := by
  obtain ⟨xa, xb, xc, xd⟩ := x
  obtain ⟨pa, pb, pc, pd⟩ := p
  obtain ⟨qa, qb, qc, qd⟩ := q
  obtain ⟨ra, rb, rc, rd⟩ := r
  have Hv := Lib.hid hv
  have Ht := Lib.hid ht
  have Hh := Lib.hid hh
  have Hq := Lib.hid hq
  clear hv ht hh hq
  simp only [] at hn
  go_enter Tryz.func155, Tryz.ntmps155
  go_wp2_with fail
  refine (Hv.out _).mono ?_
  rintro e w1 ⟨rfl, hb1⟩
  have hs1 := hb1.size
  simp at hs1
  obtain ⟨hc1, hf1⟩ := bcell hb1
  have z10 : w.heap.size < w1.heap.size := by omega
  have z11 : w.heap.size + 1 < w1.heap.size := by omega
  have hp1 := below_up (B := w.heap.size) (w := w) (by go_grown) hb1 (by simp; omega)
  clear hb1
  go_wp2_with fail
  refine (coefs ⟨xa, xb, xc, xd⟩ _).mono ?_
  rintro e w2 ⟨rfl, hb2⟩
  have hs2 := hb2.size
  obtain ⟨hc2, hf2⟩ := bcell hb2
  have z20 : w.heap.size < w2.heap.size := by omega
  have z21 : w.heap.size + 1 < w2.heap.size := by omega
  have hp2 := below_up hp1 hb2 (by omega)
  clear hb2
  go_wp2_with fail
  refine (Ht.out _).mono ?_
  rintro e w3 ⟨rfl, hb3⟩
  have hs3 := hb3.size
  simp at hs3
  obtain ⟨hc3, hf3⟩ := bcell hb3
  have z30 : w.heap.size < w3.heap.size := by omega
  have z31 : w.heap.size + 1 < w3.heap.size := by omega
  have z32 : w2.heap.size < w3.heap.size := by omega
  have hp3 := below_up (B := w.heap.size) (w := w) (by go_grown) hb3 (by simp; omega)
  clear hb3
  go_wp2_with fail
  refine (Hh.out _).mono ?_
  rintro e w4 ⟨rfl, hb4⟩
  have hs4 := hb4.size
  obtain ⟨hc4, hf4⟩ := bcell hb4
  have z40 : w.heap.size < w4.heap.size := by omega
  have z41 : w.heap.size + 1 < w4.heap.size := by omega
  have z42 : w2.heap.size < w4.heap.size := by omega
  have hp4 := below_up hp3 hb4 (by omega)
  clear hb4
  go_wp2_with fail
  go_region_with (first | (go_at_call 161; refine (Hq.out _).mono ?_; rintro e w5 ⟨rfl, hb5⟩; have hs5 := hb5.size; simp at hs5; obtain ⟨hc5, hf5⟩ := bcell hb5; have z50 := Nat.lt_of_lt_of_le (Nat.lt_succ_of_lt z40) hs5; have z51 := Nat.lt_of_lt_of_le (Nat.lt_succ_of_lt z41) hs5; have z52 := Nat.lt_of_lt_of_le (Nat.lt_succ_of_lt z42) hs5; have z53 := Nat.lt_of_succ_le hs5; have Hb5 := Lib.hid hb5; clear hb5))
  all_goals go_wp2_with fail
  all_goals
    refine (elem ⟨qa, qb, qc, qd⟩ _).mono ?_
    rintro e w6 ⟨rfl, hb6⟩
    have hs6 := hb6.size
    obtain ⟨hc6, hf6⟩ := bcell hb6
    have z61 : w.heap.size + 1 < w6.heap.size := by omega
    have hp5 := below_up (B := w.heap.size) (w := w) (by go_grown) Hb5.out (by first | omega | (simp; done) | (simp; omega))
    have hp6 := below_up hp5 hb6 (by omega)
    go_wp2_with fail
    refine bodyPost_ret (v := .tuple #[(.agg #[.int .i64 ((Zw.mk qa qb qc qd)).a, .int .i64 ((Zw.mk qa qb qc qd)).b, .int .i64 ((Zw.mk qa qb qc qd)).c, .int .i64 ((Zw.mk qa qb qc qd)).d]), .bool true]) (by simp [results, Tryz.results155, go_sem, hc1, hc2, hc3, hc4, hc5, hc6, z20, z40, z11, z21, z31, z41, z51]) rfl ⟨rfl, ?_⟩
    go_grown
set_option maxRecDepth 100000 in
set_option maxHeartbeats 1600000 in
theorem idiv_no (x p q r : Zw) (w : World)
    (hv : ∀ w, Calls Tryz.prog 139 #[(.agg #[.int .i64 x.a, .int .i64 x.b, .int .i64 x.c, .int .i64 x.d])] w fun e w' => e = .returned (.bool true) ∧ Below w.heap.size w w')
    (ht : ∀ w, Calls Tryz.prog 161 #[(.agg #[.int .i64 x.a, .int .i64 x.b, .int .i64 x.c, .int .i64 x.d])] w fun e w' => e = .returned (.agg #[.int .i64 p.a, .int .i64 p.b, .int .i64 p.c, .int .i64 p.d]) ∧ Below w.heap.size w w')
    (hh : ∀ w, Calls Tryz.prog 160 #[(.agg #[.int .i64 p.a, .int .i64 p.b, .int .i64 p.c, .int .i64 p.d])] w fun e w' => e = .returned (.agg #[.int .i64 q.a, .int .i64 q.b, .int .i64 q.c, .int .i64 q.d]) ∧ Below w.heap.size w w')
    (hq : ∀ w, Calls Tryz.prog 161 #[(.agg #[.int .i64 q.a, .int .i64 q.b, .int .i64 q.c, .int .i64 q.d])] w fun e w' => e = .returned (.agg #[.int .i64 r.a, .int .i64 r.b, .int .i64 r.c, .int .i64 r.d]) ∧ Below w.heap.size w w')
    (hn : ∀ w, (binOp .neq 156 (.agg #[.int .i64 r.a, .int .i64 r.b, .int .i64 r.c, .int .i64 r.d]) (.agg #[.int .i64 x.a, .int .i64 x.b, .int .i64 x.c, .int .i64 x.d])).run Tryz.prog w = .ok (.bool true) w) :
    Calls Tryz.prog 155 #[(.agg #[.int .i64 x.a, .int .i64 x.b, .int .i64 x.c, .int .i64 x.d])] w fun e w' => e = .returned (.tuple #[(.agg #[.int .i64 Zw.zero.a, .int .i64 Zw.zero.b, .int .i64 Zw.zero.c, .int .i64 Zw.zero.d]), .bool false]) ∧ Below w.heap.size w w' := by
  obtain ⟨xa, xb, xc, xd⟩ := x
  obtain ⟨pa, pb, pc, pd⟩ := p
  obtain ⟨qa, qb, qc, qd⟩ := q
  obtain ⟨ra, rb, rc, rd⟩ := r
  have Hv := Lib.hid hv
  have Ht := Lib.hid ht
  have Hh := Lib.hid hh
  have Hq := Lib.hid hq
  clear hv ht hh hq
  simp only [] at hn
  go_enter Tryz.func155, Tryz.ntmps155
  go_wp2_with fail
  refine (Hv.out _).mono ?_
  rintro e w1 ⟨rfl, hb1⟩
  have hs1 := hb1.size
  simp at hs1
  obtain ⟨hc1, hf1⟩ := bcell hb1
  have z10 : w.heap.size < w1.heap.size := by omega
  have z11 : w.heap.size + 1 < w1.heap.size := by omega
  have hp1 := below_up (B := w.heap.size) (w := w) (by go_grown) hb1 (by simp; omega)
  clear hb1
  go_wp2_with fail
  refine (coefs ⟨xa, xb, xc, xd⟩ _).mono ?_
  rintro e w2 ⟨rfl, hb2⟩
  have hs2 := hb2.size
  obtain ⟨hc2, hf2⟩ := bcell hb2
  have z20 : w.heap.size < w2.heap.size := by omega
  have z21 : w.heap.size + 1 < w2.heap.size := by omega
  have hp2 := below_up hp1 hb2 (by omega)
  clear hb2
  go_wp2_with fail
  refine (Ht.out _).mono ?_
  rintro e w3 ⟨rfl, hb3⟩
  have hs3 := hb3.size
  simp at hs3
  obtain ⟨hc3, hf3⟩ := bcell hb3
  have z30 : w.heap.size < w3.heap.size := by omega
  have z31 : w.heap.size + 1 < w3.heap.size := by omega
  have z32 : w2.heap.size < w3.heap.size := by omega
  have hp3 := below_up (B := w.heap.size) (w := w) (by go_grown) hb3 (by simp; omega)
  clear hb3
  go_wp2_with fail
  refine (Hh.out _).mono ?_
  rintro e w4 ⟨rfl, hb4⟩
  have hs4 := hb4.size
  obtain ⟨hc4, hf4⟩ := bcell hb4
  have z40 : w.heap.size < w4.heap.size := by omega
  have z41 : w.heap.size + 1 < w4.heap.size := by omega
  have z42 : w2.heap.size < w4.heap.size := by omega
  have hp4 := below_up hp3 hb4 (by omega)
  clear hb4
  go_wp2_with fail
  go_region_with (first | (go_at_call 161; refine (Hq.out _).mono ?_; rintro e w5 ⟨rfl, hb5⟩; have hs5 := hb5.size; simp at hs5; obtain ⟨hc5, hf5⟩ := bcell hb5; have z50 := Nat.lt_of_lt_of_le (Nat.lt_succ_of_lt z40) hs5; have z51 := Nat.lt_of_lt_of_le (Nat.lt_succ_of_lt z41) hs5; have z52 := Nat.lt_of_lt_of_le (Nat.lt_succ_of_lt z42) hs5; have z53 := Nat.lt_of_succ_le hs5; have Hb5 := Lib.hid hb5; clear hb5))
  all_goals go_wp2_with fail
  all_goals
    have hp5 := below_up (B := w.heap.size) (w := w) (by go_grown) Hb5.out (by first | omega | (simp; done) | (simp; omega))
    refine bodyPost_ret (v := .tuple #[(.agg #[.int .i64 Zw.zero.a, .int .i64 Zw.zero.b, .int .i64 Zw.zero.c, .int .i64 Zw.zero.d]), .bool false]) (by simp [results, Tryz.results155, go_sem, hc1, hc2, hc3, hc4, hc5, z20, z40, z11, z21, z31, z41, Zw.zero]) rfl ⟨rfl, ?_⟩
    go_grown
set_option maxRecDepth 100000 in
set_option maxHeartbeats 800000 in
theorem idiv_bad (x : Zw) (w : World) (h : ¬ x.ok) :
    Calls Tryz.prog 155 #[(.agg #[.int .i64 x.a, .int .i64 x.b, .int .i64 x.c, .int .i64 x.d])] w fun e w' => e = .returned (.tuple #[(.agg #[.int .i64 Zw.zero.a, .int .i64 Zw.zero.b, .int .i64 Zw.zero.c, .int .i64 Zw.zero.d]), .bool false]) ∧ Below w.heap.size w w' := by
  obtain ⟨a, b, c, d⟩ := x
  have Hv := Lib.hid (okB_false.2 h)
  clear h
  go_enter Tryz.func155, Tryz.ntmps155
  go_wp2_with fail
  refine (ivalid_any ⟨a, b, c, d⟩ false _ Hv.out).mono ?_
  rintro e w1 ⟨rfl, hb1⟩
  have hs1 := hb1.size
  simp at hs1
  obtain ⟨hc1, hf1⟩ := bcell hb1
  have z11 : w.heap.size + 1 < w1.heap.size := by omega
  have hp1 := below_up (B := w.heap.size) (w := w) (by go_grown) hb1 (by first | omega | (simp; done) | (simp; omega))
  go_wp2_with fail
  refine bodyPost_ret (v := .tuple #[(.agg #[.int .i64 Zw.zero.a, .int .i64 Zw.zero.b, .int .i64 Zw.zero.c, .int .i64 Zw.zero.d]), .bool false]) (by simp [results, Tryz.results155, go_sem, hc1, Zw.zero]) rfl ⟨rfl, ?_⟩
  go_grown
theorem idiv_any (x : Zw) (w : World) :
    Calls Tryz.prog 155 #[(.agg #[.int .i64 x.a, .int .i64 x.b, .int .i64 x.c, .int .i64 x.d])] w fun e w' => e = .returned (.tuple #[(.agg #[.int .i64 (divV x).a, .int .i64 (divV x).b, .int .i64 (divV x).c, .int .i64 (divV x).d]), .bool (divB x)]) ∧ Below w.heap.size w w' := by
  by_cases h : x.ok
  · have hn : ∀ w, (binOp .neq 156 (.agg #[.int .i64 x.root.thalf.root.a, .int .i64 x.root.thalf.root.b, .int .i64 x.root.thalf.root.c, .int .i64 x.root.thalf.root.d]) (.agg #[.int .i64 x.a, .int .i64 x.b, .int .i64 x.c, .int .i64 x.d])).run Tryz.prog w = .ok (.bool (!decide (x.root.even))) w := by
      intro w
      rw [eq4]
      congr 3
      rw [Bool.eq_iff_iff]
      simp only [Bool.and_eq_true, decide_eq_true_eq]
      rw [← thalf_root]
      exact ⟨fun ⟨⟨⟨h1, h2⟩, h3⟩, h4⟩ => Zw.ext4 h1 h2 h3 h4, fun e => by rw [e]; exact ⟨⟨⟨rfl, rfl⟩, rfl⟩, rfl⟩⟩
    have hr : x.root.i64 := by
      obtain ⟨a, b, c, d⟩ := x
      simp only [Zw.root, Zw.ok, Zw.i64, Near, I64] at *
      omega
    by_cases k : x.root.even
    · rw [decide_eq_true k] at hn
      have := idiv_yes x x.root x.root.thalf x.root.thalf.root w (fun w => ivalid_any x true w (okB_true.2 h)) (fun w => tsq x w h) (fun w => halv x.root w hr) (fun w => tsq x.root.thalf w (thalf_ok h)) hn
      rw [show divV x = x.root.thalf by rw [thalf_half k]; simp [divV, h, k], show divB x = true by simp [divB, h, k]]
      exact this
    · rw [decide_eq_false k] at hn
      have := idiv_no x x.root x.root.thalf x.root.thalf.root w (fun w => ivalid_any x true w (okB_true.2 h)) (fun w => tsq x w h) (fun w => halv x.root w hr) (fun w => tsq x.root.thalf w (thalf_ok h)) hn
      rw [show divV x = Zw.zero by simp [divV, k], show divB x = false by simp [divB, k]]
      exact this
  · rw [show divV x = Zw.zero by simp [divV, h], show divB x = false by simp [divB, h]]
    exact idiv_bad x w h
end Go.Proofs.YtlmiebeffdcfhaaGreat
namespace Go.Proofs.YtlmiebeffdcfhaaGreat
theorem near_neg {n : Int} : Near (-n) ↔ Near n := by unfold Near; omega
theorem mul_comm' (x y : Zw) : y.mul x = x.mul y := by
  simp only [Zw.mul, Zw.mk.injEq, Int.mul_comm y.a, Int.mul_comm y.b, Int.mul_comm y.c, Int.mul_comm y.d]; omega
theorem mulB_comm (x y : Zw) : mulB y x = mulB x y := by
  unfold mulB; rw [mul_comm']; rw [Bool.eq_iff_iff]; simp only [decide_eq_true_eq]; exact ⟨fun ⟨a, b, c⟩ => ⟨b, a, c⟩, fun ⟨a, b, c⟩ => ⟨b, a, c⟩⟩
theorem addB_iff {x y : Zw} : addB x y = true ↔ x.ok ∧ y.ok ∧ (x.add y).ok := by simp [addB]
theorem mulB_iff {x y : Zw} : mulB x y = true ↔ x.ok ∧ y.ok ∧ (x.mul y).ok := by simp [mulB]
theorem divB_iff {x : Zw} : divB x = true ↔ x.ok ∧ x.root.even := by simp [divB]
theorem mulV_of {x y : Zw} (h : mulB x y = true) : mulV x y = x.mul y := if_pos (mulB_iff.1 h)
theorem divV_of {x : Zw} (h : divB x = true) : divV x = x.root.half := if_pos (divB_iff.1 h)
theorem conj_ok {x : Zw} : x.conj.ok ↔ x.ok := by
  simp only [Zw.conj, Zw.ok, near_neg]; exact ⟨fun ⟨a, b, c, d⟩ => ⟨a, d, c, b⟩, fun ⟨a, b, c, d⟩ => ⟨a, d, c, b⟩⟩
def rootE : Zw := ⟨0, 1, 0, -1⟩
theorem mul_rootE (y : Zw) : y.mul rootE = y.root := by
  simp only [rootE, Zw.mul, Zw.root, Zw.mk.injEq, Int.mul_zero, Int.mul_one, Int.mul_neg]; omega
theorem half_ok {x : Zw} (h : x.ok) (k : x.root.even) : x.root.half.ok := by rw [← thalf_half k]; exact thalf_ok h
theorem half_root {x : Zw} (k : x.root.even) : x.root.half.root = x := by rw [← thalf_half k]; exact thalf_root.2 k
theorem root_back {x : Zw} (h : mulB x rootE = true) : divB (mulV x rootE) = true ∧ divV (mulV x rootE) = x := by
  obtain ⟨_, _, hp⟩ := mulB_iff.1 h
  rw [mulV_of h]
  rw [mul_rootE] at hp ⊢
  have e : x.root.root.even ∧ x.root.root.half = x := by
    obtain ⟨a, b, c, d⟩ := x
    simp only [Zw.root, Zw.even, Zw.half, Zw.mk.injEq]
    omega
  have hb : divB x.root = true := divB_iff.2 ⟨hp, e.1⟩
  exact ⟨hb, by rw [divV_of hb, e.2]⟩
end Go.Proofs.YtlmiebeffdcfhaaGreat
namespace Go.Proofs.YtlmiebeffdcfhaaGreat
/-- x times the k-th power of the root of 2. -/
def rootN : Nat → Zw → Zw
  | 0, x => x
  | k + 1, x => rootN k x.root
theorem rootN_add (j k : Nat) (x : Zw) : rootN (j + k) x = rootN k (rootN j x) := by
  induction j generalizing x with
  | zero => rw [Nat.zero_add]; rfl
  | succ j ih => rw [Nat.succ_add]; exact ih x.root
theorem rootN_succ (k : Nat) (x : Zw) : rootN (k + 1) x = (rootN k x).root := rootN_add k 1 x
theorem root_inj {x y : Zw} (h : x.root = y.root) : x = y := by
  obtain ⟨a, b, c, d⟩ := x
  obtain ⟨e, f, g, i⟩ := y
  simp only [Zw.root, Zw.mk.injEq] at *
  omega
theorem rootN_inj {k : Nat} {x y : Zw} (h : rootN k x = rootN k y) : x = y := by
  induction k generalizing x y with
  | zero => exact h
  | succ k ih => exact root_inj (ih h)
theorem root_add (x y : Zw) : (x.add y).root = x.root.add y.root := by
  simp only [Zw.root, Zw.add, Zw.mk.injEq]; omega
theorem rootN_addZ (k : Nat) (x y : Zw) : rootN k (x.add y) = (rootN k x).add (rootN k y) := by
  induction k generalizing x y with
  | zero => rfl
  | succ k ih => show rootN k (x.add y).root = _; rw [root_add]; exact ih _ _
theorem root_mul (x y : Zw) : (x.mul y).root = x.root.mul y := by
  simp only [Zw.root, Zw.mul, Zw.mk.injEq, Int.sub_mul, Int.add_mul]; omega
theorem rootN_mul (k : Nat) (x y : Zw) : rootN k (x.mul y) = (rootN k x).mul y := by
  induction k generalizing x with
  | zero => rfl
  | succ k ih => show rootN k (x.mul y).root = _; rw [root_mul]; exact ih _
theorem rootN_mul2 (j k : Nat) (x y : Zw) : rootN (j + k) (x.mul y) = (rootN j x).mul (rootN k y) := by
  rw [rootN_add, rootN_mul, mul_comm' y (rootN j x), rootN_mul, mul_comm' (rootN j x) (rootN k y)]
theorem root_conj (x : Zw) : x.conj.root = x.root.conj := by
  simp only [Zw.root, Zw.conj, Zw.mk.injEq]; omega
theorem rootN_conj (k : Nat) (x : Zw) : rootN k x.conj = (rootN k x).conj := by
  induction k generalizing x with
  | zero => rfl
  | succ k ih => show rootN k x.conj.root = _; rw [root_conj]; exact ih _
/-- One fraction has the value of another. -/
def Same (n : Zw) (k : Nat) (m : Zw) (j : Nat) : Prop := rootN j n = rootN k m
theorem Same.symm {n m : Zw} {k j : Nat} (h : Same n k m j) : Same m j n k := Eq.symm h
theorem Same.trans {n m r : Zw} {k j i : Nat} (h : Same n k m j) (h2 : Same m j r i) : Same n k r i := by
  unfold Same at *
  apply rootN_inj (k := j)
  rw [← rootN_add, ← rootN_add, Nat.add_comm i j, Nat.add_comm k j, rootN_add j i, h, rootN_add j k, ← h2, ← rootN_add, ← rootN_add, Nat.add_comm]
theorem Same.up (n : Zw) (k i : Nat) : Same (rootN i n) (k + i) n k := by
  unfold Same; rw [← rootN_add, Nat.add_comm k i]
/-- A fraction: the numerator and the power of the root of 2 below it. -/
structure Dw where
  n : Zw
  e : Int
def Dw.zero : Dw := ⟨.zero, 0⟩
def Dw.ok (x : Dw) : Prop := x.n.ok ∧ 0 ≤ x.e ∧ x.e ≤ 60 ∧ (x.e = 0 ∨ divB x.n = false)
instance (x : Dw) : Decidable x.ok := inferInstanceAs (Decidable (_ ∧ _))
/-- Factors of the root cancel, k times at the most. -/
def red : Nat → Zw → Zw × Nat
  | 0, n => (n, 0)
  | k + 1, n => if divB n then red k (divV n) else (n, k + 1)
theorem divV_root {n : Zw} (h : divB n = true) : (divV n).root = n ∧ (divV n).ok := by
  rw [divV_of h]
  exact ⟨half_root (divB_iff.1 h).2, half_ok (divB_iff.1 h).1 (divB_iff.1 h).2⟩
theorem red_le (k : Nat) (n : Zw) : (red k n).2 ≤ k := by
  induction k generalizing n with
  | zero => exact Nat.le_refl _
  | succ k ih =>
    unfold red
    split
    · exact Nat.le_succ_of_le (ih _)
    · exact Nat.le_refl _
theorem red_same (k : Nat) (n : Zw) : rootN (k - (red k n).2) (red k n).1 = n := by
  induction k generalizing n with
  | zero => rfl
  | succ k ih =>
    unfold red
    split
    · rename_i h
      rw [show k + 1 - (red k (divV n)).2 = (k - (red k (divV n)).2) + 1 by have := red_le k (divV n); omega, rootN_succ, ih, (divV_root h).1]
    · simp [rootN]
theorem red_same' (k : Nat) (n : Zw) : Same (red k n).1 (red k n).2 n k := by
  have h := Same.up (red k n).1 (red k n).2 (k - (red k n).2)
  rw [red_same, show (red k n).2 + (k - (red k n).2) = k by have := red_le k n; omega] at h
  exact h.symm
theorem red_ok {k : Nat} {n : Zw} (h : n.ok) : (red k n).1.ok := by
  induction k generalizing n with
  | zero => exact h
  | succ k ih =>
    unfold red
    split
    · rename_i h1; exact ih (divV_root h1).2
    · exact h
theorem red_done (k : Nat) (n : Zw) : (red k n).2 = 0 ∨ divB (red k n).1 = false := by
  induction k generalizing n with
  | zero => exact .inl rfl
  | succ k ih =>
    unfold red
    split
    · exact ih _
    · rename_i h; exact .inr (by simpa using h)
/-- NewDOmega. -/
def newB (n : Zw) (k : Int) : Bool := decide (n.ok ∧ 0 ≤ k ∧ k ≤ 120 ∧ (red k.toNat n).2 ≤ 60)
def newV (n : Zw) (k : Int) : Dw := if newB n k then ⟨(red k.toNat n).1, (red k.toNat n).2⟩ else .zero
theorem newB_iff {n : Zw} {k : Int} : newB n k = true ↔ n.ok ∧ 0 ≤ k ∧ k ≤ 120 ∧ (red k.toNat n).2 ≤ 60 := by simp [newB]
theorem newV_of {n : Zw} {k : Int} (h : newB n k = true) : newV n k = ⟨(red k.toNat n).1, (red k.toNat n).2⟩ := if_pos h
theorem newV_ok {n : Zw} {k : Int} (h : newB n k = true) : (newV n k).ok := by
  rw [newV_of h]
  obtain ⟨h1, h2, h3, h4⟩ := newB_iff.1 h
  refine ⟨red_ok h1, Int.natCast_nonneg _, by show (((red k.toNat n).2 : Nat) : Int) ≤ 60; omega, ?_⟩
  rcases red_done k.toNat n with h | h
  · exact .inl (by show (((red k.toNat n).2 : Nat) : Int) = 0; omega)
  · exact .inr h
theorem newV_same {n : Zw} {k : Int} (h : newB n k = true) : Same (newV n k).n (newV n k).e.toNat n k.toNat := by
  rw [newV_of h]
  simpa using red_same' k.toNat n
/-- A valid fraction is its own representation. -/
theorem newV_self {x : Dw} (h : x.ok) : newB x.n x.e = true ∧ newV x.n x.e = x := by
  obtain ⟨h1, h2, h3, h4⟩ := h
  have hr : red x.e.toNat x.n = (x.n, x.e.toNat) := by
    rcases h4 with h4 | h4
    · rw [h4]; rfl
    · cases hk : x.e.toNat with
      | zero => rfl
      | succ k => unfold red; rw [h4]; rfl
  have hb : newB x.n x.e = true := newB_iff.2 ⟨h1, h2, by omega, by rw [hr]; show x.e.toNat ≤ 60; omega⟩
  refine ⟨hb, ?_⟩
  rw [newV_of hb, hr]
  obtain ⟨n, e⟩ := x
  congr 1
  show ((e.toNat : Nat) : Int) = e
  exact Int.toNat_of_nonneg h2
end Go.Proofs.YtlmiebeffdcfhaaGreat
