/- The draws of the chapter's laws. -/
import Derived.Test.YtbohbhhgmglcdaaDwDraw
namespace Go.Proofs.Ytbohbhhgmglcdaa
open Go.RowKit
attribute [local irreducible] World.cell?
def D2Ret (e : Ending) : Prop := ∃ x y : Dw, e = .returned (.tuple #[(.agg #[.int .i64 x.n.a, .int .i64 x.n.b, .int .i64 x.n.c, .int .i64 x.n.d, .int .i64 x.e]), (.agg #[.int .i64 y.n.a, .int .i64 y.n.b, .int .i64 y.n.c, .int .i64 y.n.d, .int .i64 y.e])]) ∧ (-9223372036854775808 ≤ x.e ∧ x.e ≤ 9223372036854775807) ∧ -9223372036854775808 ≤ y.e ∧ y.e ≤ 9223372036854775807
theorem d2ret (x y : Dw) (h0 : -9223372036854775808 ≤ x.e) (h1 : x.e ≤ 9223372036854775807) (g0 : -9223372036854775808 ≤ y.e) (g1 : y.e ≤ 9223372036854775807) : D2Ret (.returned (.tuple #[(.agg #[.int .i64 x.n.a, .int .i64 x.n.b, .int .i64 x.n.c, .int .i64 x.n.d, .int .i64 x.e]), (.agg #[.int .i64 y.n.a, .int .i64 y.n.b, .int .i64 y.n.c, .int .i64 y.n.d, .int .i64 y.e])])) := ⟨x, y, rfl, ⟨h0, h1⟩, g0, g1⟩
def ZIRet (e : Ending) : Prop := ∃ (x : Zw) (k : Int), e = .returned (.tuple #[(.agg #[.int .i64 x.a, .int .i64 x.b, .int .i64 x.c, .int .i64 x.d]), .int .i64 k]) ∧ -1 ≤ k ∧ k ≤ 121
theorem ziret (x : Zw) (k : Int) (h0 : -1 ≤ k) (h1 : k ≤ 121) : ZIRet (.returned (.tuple #[(.agg #[.int .i64 x.a, .int .i64 x.b, .int .i64 x.c, .int .i64 x.d]), .int .i64 k])) := ⟨x, k, rfl, h0, h1⟩
end Go.Proofs.Ytbohbhhgmglcdaa
