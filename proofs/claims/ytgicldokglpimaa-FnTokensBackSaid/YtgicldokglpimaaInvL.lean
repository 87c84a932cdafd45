/- Gates undone: the list; what is known of the type of a gate. -/
import Derived.Test.YtgicldokglpimaaBaseB11
namespace Go.Proofs.Ytgicldokglpimaa
open Go.RowKit
/-- Gates undone. -/
def invL (L : List Gt) : List Gt := (L.map invG).reverse
theorem invL_len (L : List Gt) : (invL L).length = L.length := by simp [invL]
theorem invL_at {L : List Gt} {q : Nat} {x : Gt} (hx : L[q]? = some x) : (invL L)[L.length - (q + 1)]? = some (invG x) := by
  have hq : q < L.length := by
    rcases Nat.lt_or_ge q L.length with h' | h'
    · exact h'
    · rw [List.getElem?_eq_none h'] at hx; cases hx
  rw [invL, List.getElem?_reverse (by rw [List.length_map]; omega), List.getElem?_map, List.length_map, show L.length - 1 - (L.length - (q + 1)) = q by omega, hx]
  rfl
end Go.Proofs.Ytgicldokglpimaa
