/- Integers at the head of a block of whatever type. -/
import Derived.Test.YtlmiebeffdcfhaaBaseB22
namespace Go.Proofs.Ytlmiebeffdcfhaa
open Go.RowKit
theorem flatI : ∀ l : List Int, intE.flat l = l.map (Value.int .i64)
  | [] => rfl
  | x :: l => by rw [Enc.flat_cons, flatI l]; rfl
theorem sizeInt : (Try.prog.info? 3).map (·.size) = some 1 := by kernel_rfl
/-- The block g, of whatever type, begins with these integers. -/
def AR (w : World) (g : Nat) (l : List Int) : Prop := ∃ (cs : Array Value) (ty : TypeId), w.heap[g]? = some (.cells cs ty (0, 0)) ∧ cs.toList.take l.length = l.map (Value.int .i64)
theorem AR.lt {w : World} {g : Nat} {l : List Int} (h : AR w g l) : g < w.heap.size := by obtain ⟨cs, ty, h1, _⟩ := h; exact lt_of_block h1
theorem AR.block {w w' : World} {g : Nat} {l : List Int} (h : AR w g l) (hb : w'.heap[g]? = w.heap[g]?) : AR w' g l := by obtain ⟨cs, ty, h1, h2⟩ := h; exact ⟨cs, ty, hb.trans h1, h2⟩
theorem AR.cell {w : World} {g : Nat} {l : List Int} (h : AR w g l) {j : Nat} {x : Int} (hx : l[j]? = some x) : w.cell? ⟨g, j, none⟩ = some (.int .i64 x) := by
  obtain ⟨cs, ty, h1, h2⟩ := h
  have hj : j < l.length := by
    rcases Nat.lt_or_ge j l.length with h' | h'
    · exact h'
    · rw [List.getElem?_eq_none h'] at hx; cases hx
  refine cell_at h1 _ _ ?_
  have e : (cs.toList.take l.length)[j]? = (l.map (Value.int .i64))[j]? := by rw [h2]
  rw [List.getElem?_take, if_pos hj, List.getElem?_map, hx] at e
  rw [← Array.getElem?_toList]; exact e
theorem AR.of_row {w : World} {g : Nat} {l : List Int} (h : intE.Row w g l) : AR w g l := by
  obtain ⟨cs, h1, h2⟩ := h
  refine ⟨cs, _, h1, ?_⟩
  rw [show l.length * intE.n = l.length from Nat.mul_one _] at h2
  rw [h2, flatI]
end Go.Proofs.Ytlmiebeffdcfhaa
