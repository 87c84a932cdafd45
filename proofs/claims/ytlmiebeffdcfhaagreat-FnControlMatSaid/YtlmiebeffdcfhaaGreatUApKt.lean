/- The program's table of actions. -/
import Derived.Test.YtlmiebeffdcfhaaGreatUBaseC04
import Derived.Test.YtlmiebeffdcfhaaGreatUApKs
import Derived.Laws.EntriesVeiled
namespace Go.Proofs.YtlmiebeffdcfhaaGreat
open Go.RowKit
def OneInt (w : World) (p : Nat) (u : Int) : Prop := w.heap[p]? = some (.cells #[.int .i64 u] 3 (0, 0))
theorem OneInt.set {w : World} {p b k : Nat} {u : Int} {v : Value} (h : OneInt w p u) (hn : b < p) : OneInt (w.setCell ⟨b, k, none⟩ v) p u := by
  show (w.heap.modify b _)[p]? = _
  rw [Array.getElem?_modify, if_neg (by omega)]
  exact h
theorem OneInt.below {w w' : World} {p : Nat} {u : Int} (h : OneInt w p u) (hb : Below w.heap.size w w') : OneInt w' p u := below_blk hb (lt_of_block h) h
attribute [local irreducible] World.cell?
end Go.Proofs.YtlmiebeffdcfhaaGreat
