/- ScaleState and AddStates of the model. -/
import Derived.Test.YtgicldokglpimaaBaseB18
import Derived.Test.YtgicldokglpimaaBaseB06
namespace Go.Proofs.Ytgicldokglpimaa
open Go.RowKit
theorem fl_new (w : World) (y : Dw) (t : TypeId) : ∀ j u, (fl y)[j]? = some u → (w.alloc (.cells #[.int .i64 y.n.a, .int .i64 y.n.b, .int .i64 y.n.c, .int .i64 y.n.d, .int .i64 y.e] t)).cell? ((⟨w.heap.size, 0, none⟩ : Addr).add j) = some u := by
  intro j u hj
  match j, hj with
  | 0, hj => simp [fl] at hj; subst hj; simp [Addr.add]
  | 1, hj => simp [fl] at hj; subst hj; simp [Addr.add]
  | 2, hj => simp [fl] at hj; subst hj; simp [Addr.add]
  | 3, hj => simp [fl] at hj; subst hj; simp [Addr.add]
  | 4, hj => simp [fl] at hj; subst hj; simp [Addr.add]
  | j + 5, hj => simp [fl] at hj
theorem own_new {w : World} {n : Nat} {t : TypeId} (h : n = w.heap.size) : (w.alloc (.cells #[] t)).ownsRow n t 5 (.slice (some ⟨n, 0, none⟩) 0 0) 0 (flat []) := by
  subst h; exact World.ownsRow_lit w #[] 0 (Nat.le_refl _) (Nat.zero_le _) rfl
theorem fl_plain (y : Dw) : ∀ u ∈ fl y, u.oneCell' = true := by
  intro u hu
  simp [fl] at hu
  rcases hu with rfl | rfl | rfl | rfl | rfl <;> rfl
theorem scale_step {l : List Dw} {x y : Dw} {j : Nat} (hy : l[j]? = some y) : flat ((l.map fun y => dMulV y x).take j) ++ fl (dMulV y x) = flat ((l.map fun y => dMulV y x).take (j + 1)) := by
  rw [List.take_add_one, List.getElem?_map, hy, flat_app]
  simp [flat]
attribute [local irreducible] World.cell?
end Go.Proofs.Ytgicldokglpimaa
