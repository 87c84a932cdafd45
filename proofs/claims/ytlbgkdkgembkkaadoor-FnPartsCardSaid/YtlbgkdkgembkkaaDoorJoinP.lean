/- Plain: joining the pieces gives the string back. -/
import Derived.Test.YtlbgkdkgembkkaaDoorSplitP
import Derived.Lib.Join
namespace Go.Proofs.YtlbgkdkgembkkaaDoor
open Go.Lib
theorem join_step (x : List UInt8) (r : List (List UInt8)) (sep : List UInt8) (h : r ≠ []) : join (x :: r) sep = x ++ (sep ++ join r sep) := by
  cases r with
  | nil => exact absurd rfl h
  | cons y r => rw [join_cons, join_cons]; simp [joinTail]
theorem pcs_ne (c : UInt8) (s : ByteArray) : (pcs c s).map (·.data.toList) ≠ [] := by
  intro h
  have := congrArg List.length h
  simp [pcs_len] at this
theorem join_pcs (c : UInt8) : ∀ (n : Nat) (s : ByteArray), s.size ≤ n → join ((pcs c s).map (·.data.toList)) [c] = s.data.toList := by
  intro n
  induction n with
  | zero =>
    intro s hs
    rw [pcs_miss c s (fun j h => by
      rw [List.getElem?_eq_none (by simp; omega)] at h; cases h)]
    simp [join_one]
  | succ n ih =>
    intro s hs
    rcases index_spec s.data.toList [c] with ⟨_, hno⟩ | ⟨i, _, hi, ho, hno⟩
    · rw [pcs_miss c s (fun j h => by
        have hj : j < s.data.toList.length := by
          rcases Nat.lt_or_ge j s.data.toList.length with h' | h'
          · exact h'
          · rw [List.getElem?_eq_none h'] at h; cases h
        have := hno j (Nat.le_of_lt hj)
        rw [occ_one, h] at this
        simp at this)]
      simp [join_one]
    · have hget : s.data.toList[i]? = some c := by rw [occ_one] at ho; simpa using ho
      have hlt : i < s.data.toList.length := by
        rcases Nat.lt_or_ge i s.data.toList.length with h' | h'
        · exact h'
        · rw [List.getElem?_eq_none h'] at hget; cases hget
      rw [pcs_hit c s i hget (fun j hj h => by
        have := hno j hj
        rw [occ_one, h] at this
        simp at this)]
      have hsz : s.size = s.data.toList.length := by simp
      rw [List.map_cons, join_step _ _ _ (pcs_ne c _), ih (s.extract (i + 1) s.size) (by rw [ByteArray.size_extract]; omega), extract_from_zero, extract_to_end]
      rw [List.getElem?_eq_getElem hlt] at hget
      injection hget with hget
      have e : s.data.toList.take i ++ c :: s.data.toList.drop (i + 1) = s.data.toList := by
        rw [← hget, List.getElem_cons_drop, List.take_append_drop]
      rw [List.singleton_append]
      exact e
end Go.Proofs.YtlbgkdkgembkkaaDoor
