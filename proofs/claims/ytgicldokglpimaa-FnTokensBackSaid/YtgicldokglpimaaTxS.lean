/- The first chapter's functions as the fourth's texts want them: numerals as texts, pieces in a row, numbers read. -/
import Derived.Test.YtgicldokglpimaaBaseB33
import Derived.Test.YtgicldokglpimaaBaseB32
import Derived.Laws.Concat
namespace Go.Proofs.Ytgicldokglpimaa
open Go.RowKit Go.Lib
/-- A row of strings that a call gave. -/
theorem own_row {w w' : World} {v : Value} {l : List ByteArray} (h : w'.ownsRow w.heap.size 9 1 v l.length (l.map Value.string)) (hl : 0 < l.length) :
    ∃ g cap, v = .slice (some ⟨g, 0, none⟩) l.length cap ∧ w.heap.size ≤ g ∧ StrRow w' g l.length (fun j => l.getD j ByteArray.empty) := by
  rcases h.2 with ⟨_, h2⟩ | ⟨g, cap, cur, hv, hb, hg, _, _, hs, ht⟩
  · omega
  · refine ⟨g, cap, hv, hb, cur, hg, fun j hj => ?_⟩
    have e := congrArg (fun x : List Value => x[j]?) ht
    simp only [List.getElem?_take, Nat.mul_one, if_pos hj] at e
    rw [← Array.getElem?_toList, e, List.getElem?_map]
    show Option.map Value.string l[j]? = some (Value.string (l.getD j ByteArray.empty))
    rw [List.getD_eq_getElem?_getD, List.getElem?_eq_getElem hj]
    rfl
theorem cat_run (l m : List UInt8) (w : World) (h : l.length + m.length ≤ 9223372036854775807) : (binOp .add 9 (.string (toB l)) (.string (toB m))).run Try.prog w = .ok (.string (toB (l ++ m))) w := by
  rw [binOp_string_add, run_string_add_sum _ _ _ (by rw [toB_size, toB_size]; exact h)]
  rfl
end Go.Proofs.Ytgicldokglpimaa
