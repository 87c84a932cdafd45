/- Plain: the map from names to kinds, as data. -/
import Derived.Test.YtbnkanlebjpkfaaDoorB13
import Derived.Maps.OwnSet
namespace Go.Proofs.YtbnkanlebjpkfaaDoor
open Go.RowKit Go.Lib Go.Maps
def kmD : Nat → DataW Unit
  | 0 => .map []
  | j + 1 => (kmD j).put (.string (nm ((j : Int) + 1))) (.lit (.int .i64 ((j : Int) + 1)))
theorem kmD_map : ∀ j, IsMap (kmD j)
  | 0 => isMap_empty
  | j + 1 => by
    obtain ⟨es, h⟩ := kmD_map j
    unfold kmD
    rw [h]
    exact ⟨_, rfl⟩
theorem kmD_at (s : ByteArray) : ∀ j : Nat, j ≤ 12 → (kmD j).atKey (.string s.data.toList) (.lit (.int .i64 0)) = .lit (.int .i64 (if gkV s ≤ (j : Int) then gkV s else 0))
  | 0, _ => by
    have h : (if gkV s ≤ ((0 : Nat) : Int) then gkV s else 0) = 0 := by
      rcases gkV_range s with h | ⟨h, -, -⟩
      · rw [h]; rfl
      · rw [if_neg (by omega)]
    rw [h]
    rfl
  | j + 1, hj => by
    unfold kmD
    by_cases h : nm ((j : Int) + 1) = s.data.toList
    · have hs : nmB ((j : Int) + 1) = s := ByteArray.ext (Array.toList_inj.1 h)
      have hv : gkV s = (j : Int) + 1 := by rw [← hs, gkV_of (by omega)]
      rw [h, atKey_put_same (kmD_map j) (show WideAt.IsKeyLit (.string s.data.toList) from trivial), hv, if_pos (by omega)]
    · rw [atKey_put_other (by intro e; injection e with e; exact h e.symm), kmD_at s j (by omega)]
      rcases gkV_range s with e | ⟨h1, h2, h3⟩
      · rw [e, if_pos (by omega), if_pos (by omega)]
      · have hne : gkV s ≠ (j : Int) + 1 := fun e => by
          rw [e] at h3
          exact h (by rw [← h3]; rfl)
        by_cases hl : gkV s ≤ (j : Int)
        · rw [if_pos hl, if_pos (by omega)]
        · rw [if_neg hl, if_neg (by omega)]
theorem kmD_all (s : ByteArray) : (kmD 12).atKey (.string s.data.toList) (.lit (.int .i64 0)) = .lit (.int .i64 (gkV s)) := by
  rw [kmD_at s 12 (Nat.le_refl _)]
  rcases gkV_range s with e | ⟨-, h2, -⟩
  · rw [e]; rfl
  · rw [if_pos (show gkV s ≤ ((12 : Nat) : Int) from h2)]
end Go.Proofs.YtbnkanlebjpkfaaDoor
