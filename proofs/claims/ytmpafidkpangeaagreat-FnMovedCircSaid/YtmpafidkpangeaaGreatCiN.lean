/- The model's ConcatCircuits. -/
import Derived.Test.YtmpafidkpangeaaGreatBaseB16
import Derived.Test.YtmpafidkpangeaaGreatBaseB05
namespace Go.Proofs.YtmpafidkpangeaaGreat
open Go.RowKit
theorem CB2.alloc {w w1 : World} {a b : Nat} {n m : Int} {v u : Value} {o : Obj} (h : CB2 w a b n m v u w1) : CB2 w a b n m v u (w1.alloc o) :=
  CB2.below h ((Below.refl _ _).alloc (Nat.le_refl _) o)
theorem CB2.set {w w1 : World} {a b g p : Nat} {n m : Int} {v u x : Value} (h : CB2 w a b n m v u w1) (ha : a ≠ g) (hb : b ≠ g) (hg : w.heap.size ≤ g) : CB2 w a b n m v u (w1.setCell ⟨g, p, none⟩ x) :=
  let ⟨a0, a1, b0, b1, z, z', l⟩ := h
  ⟨cell_set a0 ha, cell_set a1 ha, cell_set b0 hb, cell_set b1 hb, by simpa [World.setCell] using z, by simpa [World.setCell] using z', l.setCell (p := ⟨g, p, none⟩) hg x⟩
attribute [local irreducible] World.cell?
end Go.Proofs.YtmpafidkpangeaaGreat
