/- Rows of fractions: five cells each; slices of them. -/
import Derived.Test.YtgknokaibgckkaaDoorDwW
import Derived.Test.YtgknokaibgckkaaDoorZwDraw2
namespace Go.Proofs.YtgknokaibgckkaaDoor
open Go.RowKit
/-- The cells of a fraction. -/
def fl (x : Dw) : List Value := [.int .i64 x.n.a, .int .i64 x.n.b, .int .i64 x.n.c, .int .i64 x.n.d, .int .i64 x.e]
/-- The cells of a row. -/
def flat : List Dw → List Value
  | [] => []
  | x :: l => fl x ++ flat l
theorem flat_len : ∀ l : List Dw, (flat l).length = l.length * 5
  | [] => rfl
  | x :: l => by rw [flat, List.length_append, flat_len l, List.length_cons]; simp only [fl, List.length_cons, List.length_nil]; omega
theorem flat_app : ∀ l m : List Dw, flat (l ++ m) = flat l ++ flat m
  | [], m => rfl
  | x :: l, m => by rw [List.cons_append, flat, flat, flat_app l m, List.append_assoc]
theorem flat_at : ∀ {l : List Dw} {j : Nat} {x : Dw}, l[j]? = some x → ∀ k, k < 5 → (flat l)[j * 5 + k]? = (fl x)[k]?
  | [], j, x, h, k, hk => by simp at h
  | y :: l, 0, x, h, k, hk => by
    obtain rfl : y = x := by simpa using h
    rw [flat, List.getElem?_append_left (by simp [fl]; omega)]
    simp
  | y :: l, j + 1, x, h, k, hk => by
    rw [flat, List.getElem?_append_right (by simp [fl]; omega)]
    rw [show (j + 1) * 5 + k - (fl y).length = j * 5 + k by simp [fl]; omega]
    exact flat_at (by simpa using h) k hk
/-- Five cells written. -/
def put5 (l : List Value) (o : Nat) (y : Dw) : List Value := ((((l.set o (.int .i64 y.n.a)).set (o + 1) (.int .i64 y.n.b)).set (o + 2) (.int .i64 y.n.c)).set (o + 3) (.int .i64 y.n.d)).set (o + 4) (.int .i64 y.e)
theorem put5_right (l m : List Value) (o : Nat) (y : Dw) (h : l.length ≤ o) : put5 (l ++ m) o y = l ++ put5 m (o - l.length) y := by
  unfold put5
  rw [List.set_append_right _ _ h, List.set_append_right _ _ (by omega), List.set_append_right _ _ (by omega), List.set_append_right _ _ (by omega), List.set_append_right _ _ (by omega)]
  rw [show o + 1 - l.length = o - l.length + 1 by omega, show o + 2 - l.length = o - l.length + 2 by omega, show o + 3 - l.length = o - l.length + 3 by omega, show o + 4 - l.length = o - l.length + 4 by omega]
theorem flat_set : ∀ (l : List Dw) (j : Nat) (y : Dw), j < l.length → put5 (flat l) (j * 5) y = flat (l.set j y)
  | [], j, y, h => by simp at h
  | x :: l, 0, y, h => by
    simp [put5, flat, fl]
  | x :: l, j + 1, y, h => by
    rw [flat, put5_right _ _ _ _ (by simp [fl]; omega), show (j + 1) * 5 - (fl x).length = j * 5 by simp [fl]; omega, flat_set l j y (by simpa using h)]
    rfl
end Go.Proofs.YtgknokaibgckkaaDoor
