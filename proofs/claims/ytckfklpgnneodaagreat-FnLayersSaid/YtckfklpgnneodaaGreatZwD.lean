/- Division by the square root of 2, of the program and of its model. -/
import Derived.Test.YtckfklpgnneodaaGreatBaseB01
import Derived.Laws.StructEq
import Derived.Deep.RegionHeld3
namespace Go.Proofs.YtckfklpgnneodaaGreat
open Go.RowKit
attribute [local irreducible] World.cell?
/-! Plain numbers. -/
theorem tdiv2 (r : Int) : 2 * r.tdiv 2 + r.tmod 2 = r ∧ -1 ≤ r.tmod 2 ∧ r.tmod 2 ≤ 1 := by
  have h := Int.mul_tdiv_add_tmod r 2
  have h1 := Int.tmod_lt_of_pos r (show (0 : Int) < 2 by omega)
  have h2 := Int.lt_tmod_of_pos r (show (0 : Int) < 2 by omega)
  omega
theorem tmod2 (r : Int) : r.tmod 2 = 0 ↔ r % 2 = 0 := by
  have h := tdiv2 r
  omega
def Zw.thalf (x : Zw) : Zw := ⟨x.a.tdiv 2, x.b.tdiv 2, x.c.tdiv 2, x.d.tdiv 2⟩
theorem thalf_root {x : Zw} : x.root.thalf.root = x ↔ x.root.even := by
  obtain ⟨a, b, c, d⟩ := x
  have h1 := tdiv2 (b - d)
  have h2 := tdiv2 (a + c)
  have h3 := tdiv2 (b + d)
  have h4 := tdiv2 (c - a)
  simp only [Zw.root, Zw.thalf, Zw.even, Zw.mk.injEq]
  omega
theorem thalf_half {x : Zw} (h : x.even) : x.thalf = x.half := by
  obtain ⟨a, b, c, d⟩ := x
  have h1 := tdiv2 a
  have h2 := tdiv2 b
  have h3 := tdiv2 c
  have h4 := tdiv2 d
  simp only [Zw.thalf, Zw.even, Zw.half, Zw.mk.injEq] at *
  omega
theorem thalf_ok {x : Zw} (h : x.ok) : x.root.thalf.ok := by
  obtain ⟨a, b, c, d⟩ := x
  have h1 := tdiv2 (b - d)
  have h2 := tdiv2 (a + c)
  have h3 := tdiv2 (b + d)
  have h4 := tdiv2 (c - a)
  simp only [Zw.root, Zw.thalf, Zw.ok, Near] at *
  omega
/-- Two arrays of four integers are compared. -/
theorem size3 (w : World) : (sizeOf 3).run Tryz.prog w = .ok 1 w := by kernel_rfl
set_option maxRecDepth 100000 in
set_option maxHeartbeats 400000 in
theorem eq4 (x y : Zw) (w : World) : (binOp .neq 164 (.agg #[.int .i64 x.a, .int .i64 x.b, .int .i64 x.c, .int .i64 x.d]) (.agg #[.int .i64 y.a, .int .i64 y.b, .int .i64 y.c, .int .i64 y.d])).run Tryz.prog w = .ok (.bool (!(decide (x.a = y.a) && decide (x.b = y.b) && decide (x.c = y.c) && decide (x.d = y.d)))) w := by
  rw [run_neq_struct, Op.equalIn]
  simp only [Sem.run_bind, run_underlying Tryz.underlying164, Result.andThen_ok, size3]
  have pe : ∀ (u v : Int) (w : World), (Op.equalIn 9999 3 (.int .i64 u) (.int .i64 v)).run Tryz.prog w = .ok (u == v) w := fun u v w => run_equalIn_int w 9998 3 .i64 .i64 u v Tryz.underlying3
  have pp : ∀ (cs : Array Value) (i : Nat) (u : Value) (w : World), cs[i]? = some u → (part 3 cs i).run Tryz.prog w = .ok u w := by
    intro cs i u w hu
    simp [part, isAgg, run_underlying Tryz.underlying3, hu]
  simp only [Std.Legacy.Range.forIn_eq_forIn_range', Std.Legacy.Range.size, Nat.sub_zero, Nat.add_sub_cancel, Nat.div_one, List.range', List.forIn_cons, List.forIn_nil, Sem.run_bind]
  have eb : ∀ u v : Int, (u == v) = decide (u = v) := fun _ _ => rfl
  rw [pp _ (0 * 1) (.int .i64 x.a) _ rfl]
  simp only [Result.andThen_ok]
  rw [pp _ (0 * 1) (.int .i64 y.a) _ rfl]
  simp only [Result.andThen_ok]
  rw [pe, eb]
  cases decide (x.a = y.a)
  · simp
  simp only [Result.andThen_ok, Bool.not_true, Bool.false_eq_true, if_false, Sem.run_pure, Sem.run_bind]
  rw [pp _ ((0 + 1) * 1) (.int .i64 x.b) _ rfl]
  simp only [Result.andThen_ok]
  rw [pp _ ((0 + 1) * 1) (.int .i64 y.b) _ rfl]
  simp only [Result.andThen_ok]
  rw [pe, eb]
  cases decide (x.b = y.b)
  · simp
  simp only [Result.andThen_ok, Bool.not_true, Bool.false_eq_true, if_false, Sem.run_pure, Sem.run_bind]
  rw [pp _ ((0 + 1 + 1) * 1) (.int .i64 x.c) _ rfl]
  simp only [Result.andThen_ok]
  rw [pp _ ((0 + 1 + 1) * 1) (.int .i64 y.c) _ rfl]
  simp only [Result.andThen_ok]
  rw [pe, eb]
  cases decide (x.c = y.c)
  · simp
  simp only [Result.andThen_ok, Bool.not_true, Bool.false_eq_true, if_false, Sem.run_pure, Sem.run_bind]
  rw [pp _ ((0 + 1 + 1 + 1) * 1) (.int .i64 x.d) _ rfl]
  simp only [Result.andThen_ok]
  rw [pp _ ((0 + 1 + 1 + 1) * 1) (.int .i64 y.d) _ rfl]
  simp only [Result.andThen_ok]
  rw [pe, eb]
  cases decide (x.d = y.d)
  · simp
  simp
set_option maxRecDepth 100000 in
set_option maxHeartbeats 400000 in
theorem elem (x : Zw) (w : World) :
    Calls Tryz.prog 149 #[(.agg #[.int .i64 x.a, .int .i64 x.b, .int .i64 x.c, .int .i64 x.d])] w fun e w' => e = .returned (.agg #[.int .i64 x.a, .int .i64 x.b, .int .i64 x.c, .int .i64 x.d]) ∧ Below w.heap.size w w' := by
  go_enter Tryz.func149, Tryz.ntmps149
  go_wp2_with fail
  go_returns
  exact ⟨rfl, by go_grown⟩
set_option maxRecDepth 100000 in
set_option maxHeartbeats 400000 in
theorem tsq (x : Zw) (w : World) (h : x.ok) :
    Calls Tryz.prog 148 #[(.agg #[.int .i64 x.a, .int .i64 x.b, .int .i64 x.c, .int .i64 x.d])] w fun e w' => e = .returned (.agg #[.int .i64 x.root.a, .int .i64 x.root.b, .int .i64 x.root.c, .int .i64 x.root.d]) ∧ Below w.heap.size w w' := by
  obtain ⟨a, b, c, d⟩ := x
  obtain ⟨⟨a0, a1⟩, ⟨b0, b1⟩, ⟨c0, c1⟩, ⟨d0, d1⟩⟩ := h
  simp only [] at a0 a1 b0 b1 c0 c1 d0 d1
  go_enter Tryz.func148, Tryz.ntmps148
  go_wp2_with fail
  go_returns
  exact ⟨rfl, by go_grown⟩
set_option maxRecDepth 100000 in
set_option maxHeartbeats 800000 in
theorem halv (x : Zw) (w : World) (h : x.i64) :
    Calls Tryz.prog 147 #[(.agg #[.int .i64 x.a, .int .i64 x.b, .int .i64 x.c, .int .i64 x.d])] w fun e w' => e = .returned (.agg #[.int .i64 x.thalf.a, .int .i64 x.thalf.b, .int .i64 x.thalf.c, .int .i64 x.thalf.d]) ∧ Below w.heap.size w w' := by
  obtain ⟨a, b, c, d⟩ := x
  obtain ⟨⟨a0, a1⟩, ⟨b0, b1⟩, ⟨c0, c1⟩, ⟨d0, d1⟩⟩ := h
  simp only [] at a0 a1 b0 b1 c0 c1 d0 d1
  go_enter Tryz.func147, Tryz.ntmps147
  go_wp2_with fail
  go_rounds 5
  go_returns
  exact ⟨rfl, by go_grown⟩
end Go.Proofs.YtckfklpgnneodaaGreat
