/- Division by the square root of 2, of the program and of its model. -/
import Derived.Test.YtgknokaibgckkaaDoorZwA
import Derived.Laws.StructEq
import Derived.Deep.RegionHeld3
namespace Go.Proofs.YtgknokaibgckkaaDoor
open Go.RowKit
attribute [local irreducible] World.cell?
/-! Plain numbers. -/
theorem tdiv2 (r : Int) : 2 * r.tdiv 2 + r.tmod 2 = r ∧ -1 ≤ r.tmod 2 ∧ r.tmod 2 ≤ 1 := by
  have h := Int.mul_tdiv_add_tmod r 2
  have h1 := Int.tmod_lt_of_pos r (show (0 : Int) < 2 by omega)
  have h2 := Int.lt_tmod_of_pos r (show (0 : Int) < 2 by omega)
  omega
theorem tmod2 (r : Int) : r.tmod 2 = 0 ↔ r % 2 = 0 := by
  have h := tdiv2 r
  omega
def Zw.thalf (x : Zw) : Zw := ⟨x.a.tdiv 2, x.b.tdiv 2, x.c.tdiv 2, x.d.tdiv 2⟩
theorem thalf_root {x : Zw} : x.root.thalf.root = x ↔ x.root.even := by
  obtain ⟨a, b, c, d⟩ := x
  have h1 := tdiv2 (b - d)
  have h2 := tdiv2 (a + c)
  have h3 := tdiv2 (b + d)
  have h4 := tdiv2 (c - a)
  simp only [Zw.root, Zw.thalf, Zw.even, Zw.mk.injEq]
  omega
theorem thalf_half {x : Zw} (h : x.even) : x.thalf = x.half := by
  obtain ⟨a, b, c, d⟩ := x
  have h1 := tdiv2 a
  have h2 := tdiv2 b
  have h3 := tdiv2 c
  have h4 := tdiv2 d
  simp only [Zw.thalf, Zw.even, Zw.half, Zw.mk.injEq] at *
  omega
theorem thalf_ok {x : Zw} (h : x.ok) : x.root.thalf.ok := by
  obtain ⟨a, b, c, d⟩ := x
  have h1 := tdiv2 (b - d)
  have h2 := tdiv2 (a + c)
  have h3 := tdiv2 (b + d)
  have h4 := tdiv2 (c - a)
  simp only [Zw.root, Zw.thalf, Zw.ok, Near] at *
  omega
/-- Two arrays of four integers are compared. -/
theorem size3 (w : World) : (sizeOf 3).run Tryd.prog w = .ok 1 w := by kernel_rfl
end Go.Proofs.YtgknokaibgckkaaDoor
