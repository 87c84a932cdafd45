/- Fractions compared, as the program's and the laws' structs are. -/
import Derived.Test.YtbohbhhgmglcdaaBaseA
import Derived.Test.YtbohbhhgmglcdaaRows
import Derived.Laws.StructEq
namespace Go.Proofs.Ytbohbhhgmglcdaa
open Go.RowKit
theorem dw_ext {x y : Dw} (h0 : x.n.a = y.n.a) (h1 : x.n.b = y.n.b) (h2 : x.n.c = y.n.c) (h3 : x.n.d = y.n.d) (h4 : x.e = y.e) : x = y := by
  obtain ⟨⟨a, b, c, d⟩, e⟩ := x
  obtain ⟨⟨p, q, r, s⟩, t⟩ := y
  simp only [] at h0 h1 h2 h3 h4
  subst h0 h1 h2 h3 h4
  rfl
/-- Two fractions are the same, field by field. -/
def eqDB (x y : Dw) : Bool := x.n.a == y.n.a && (x.n.b == y.n.b && (x.n.c == y.n.c && (x.n.d == y.n.d && x.e == y.e)))
theorem eqDB_iff {x y : Dw} : eqDB x y = true ↔ x = y := by
  simp only [eqDB, Bool.and_eq_true, beq_iff_eq]
  exact ⟨fun ⟨h0, h1, h2, h3, h4⟩ => dw_ext h0 h1 h2 h3 h4, fun h => by subst h; exact ⟨rfl, rfl, rfl, rfl, rfl⟩⟩
theorem eqDB_self (x : Dw) : eqDB x x = true := eqDB_iff.2 rfl
theorem eqDB_no {x y : Dw} (h : x ≠ y) : eqDB x y = false := by
  rw [Bool.eq_false_iff]; exact fun k => h (eqDB_iff.1 k)
theorem ite5 (p q r s t : Prop) [Decidable p] [Decidable q] [Decidable r] [Decidable s] [Decidable t] (w : World) :
    (if p then if q then if r then if s then if t then Result.ok (Value.bool true) w else Result.ok (Value.bool false) w else Result.ok (Value.bool false) w else Result.ok (Value.bool false) w else Result.ok (Value.bool false) w else Result.ok (Value.bool false) w) =
    Result.ok (Value.bool (decide p && (decide q && (decide r && (decide s && decide t))))) w := by
  by_cases p <;> by_cases q <;> by_cases r <;> by_cases s <;> by_cases t <;> simp [*]
set_option maxRecDepth 100000 in
set_option maxHeartbeats 1600000 in
theorem eqD (x y : Dw) (w : World) : (binOp .eql 33 (.agg #[.int .i64 x.n.a, .int .i64 x.n.b, .int .i64 x.n.c, .int .i64 x.n.d, .int .i64 x.e]) (.agg #[.int .i64 y.n.a, .int .i64 y.n.b, .int .i64 y.n.c, .int .i64 y.n.d, .int .i64 y.e])).run Try.prog w = .ok (.bool (eqDB x y)) w := by
  rw [run_eql_struct, run_equalIn_struct _ 9999 _ _ _ (by kernel_rfl) (by kernel_rfl)]
  simp [go_sem]
  rw [ite5]
  rfl
set_option maxRecDepth 100000 in
set_option maxHeartbeats 1600000 in
theorem neD (x y : Dw) (w : World) : (binOp .neq 33 (.agg #[.int .i64 x.n.a, .int .i64 x.n.b, .int .i64 x.n.c, .int .i64 x.n.d, .int .i64 x.e]) (.agg #[.int .i64 y.n.a, .int .i64 y.n.b, .int .i64 y.n.c, .int .i64 y.n.d, .int .i64 y.e])).run Try.prog w = .ok (.bool (!eqDB x y)) w := by
  rw [run_neq_struct]
  have h := eqD x y w
  rw [run_eql_struct] at h
  generalize (Op.equalIn 10000 33 (.agg #[.int .i64 x.n.a, .int .i64 x.n.b, .int .i64 x.n.c, .int .i64 x.n.d, .int .i64 x.e]) (.agg #[.int .i64 y.n.a, .int .i64 y.n.b, .int .i64 y.n.c, .int .i64 y.n.d, .int .i64 y.e])).run Try.prog w = r at *
  cases r with
  | ok b w1 => simp only [Result.andThen_ok, Result.ok.injEq, Value.bool.injEq] at h ⊢; exact ⟨by rw [h.1], h.2⟩
  | halt a w1 => simp [Result.andThen] at h
end Go.Proofs.Ytbohbhhgmglcdaa
