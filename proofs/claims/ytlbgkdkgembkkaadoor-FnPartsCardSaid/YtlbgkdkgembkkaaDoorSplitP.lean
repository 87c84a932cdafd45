/- Plain: the pieces of a string between the places of one byte. -/
import Derived.Lib.Split
import Derived.Lib.IndexBytes
import Derived.Lib.SplitLaws
namespace Go.Proofs.YtlbgkdkgembkkaaDoor
open Go.Lib
/-- The pieces of s between the places of the byte c. -/
def pcs (c : UInt8) (s : ByteArray) : List ByteArray := splitB ⟨#[c]⟩ 0 (countB s ⟨#[c]⟩) s
theorem occ_one (s : List UInt8) (c : UInt8) (i : Nat) : occAt s [c] i = (s[i]? == some c) := by
  unfold occAt
  rw [← List.head?_drop]
  cases h : s.drop i with
  | nil => rfl
  | cons a r => simp [List.isPrefixOf]; exact Bool.beq_comm
theorem idx_hit (s : ByteArray) (c : UInt8) (i : Nat) (h : s.data.toList[i]? = some c) (hn : ∀ j, j < i → s.data.toList[j]? ≠ some c) : indexB s ⟨#[c]⟩ = i := by
  have hi : i < s.data.toList.length := by
    rcases Nat.lt_or_ge i s.data.toList.length with h' | h'
    · exact h'
    · rw [List.getElem?_eq_none h'] at h; cases h
  show index s.data.toList [c] = i
  refine index_first (Nat.le_of_lt hi) (by rw [occ_one, h]; simp) (fun j hj => ?_)
  rw [occ_one]; simpa using hn j hj
theorem idx_miss (s : ByteArray) (c : UInt8) (hn : ∀ j : Nat, s.data.toList[j]? ≠ some c) : indexB s ⟨#[c]⟩ = -1 := by
  show index s.data.toList [c] = -1
  refine index_none (fun j _ => ?_)
  rw [occ_one]; simpa using hn j
theorem pcs_hit (c : UInt8) (s : ByteArray) (i : Nat) (h : s.data.toList[i]? = some c) (hn : ∀ j, j < i → s.data.toList[j]? ≠ some c) : pcs c s = s.extract 0 i :: pcs c (s.extract (i + 1) s.size) := by
  have hx := idx_hit s c i h hn
  unfold pcs
  rw [countB_hit s ⟨#[c]⟩ i (Nat.le_refl 1) hx, Nat.add_comm 1, splitB_hit _ _ _ _ i hx]
  rfl
theorem pcs_miss (c : UInt8) (s : ByteArray) (hn : ∀ j : Nat, s.data.toList[j]? ≠ some c) : pcs c s = [s] := by
  unfold pcs
  rw [splitB_miss _ _ _ _ (idx_miss s c hn)]
theorem ext_get (s : ByteArray) (f j : Nat) : (s.extract f s.size).data.toList[j]? = s.data.toList[f + j]? := by
  rw [extract_to_end, List.getElem?_drop]
/-- One step of the cutting loop: the byte at i is c. -/
theorem pcs_step (c : UInt8) (s : ByteArray) (f i : Nat) (hf : f ≤ i) (hi : i < s.size) (h : s.data.toList[i]? = some c) (hn : ∀ j, f ≤ j → j < i → s.data.toList[j]? ≠ some c) :
    pcs c (s.extract f s.size) = s.extract f i :: pcs c (s.extract (i + 1) s.size) := by
  have e := pcs_hit c (s.extract f s.size) (i - f) (by rw [ext_get, show f + (i - f) = i by omega]; exact h) (fun j hj => by rw [ext_get]; exact hn _ (by omega) (by omega))
  rw [e]
  have e1 : (s.extract f s.size).extract 0 (i - f) = s.extract f i := by
    rw [ByteArray.extract_extract]; congr 1; omega
  have e2 : (s.extract f s.size).extract (i - f + 1) (s.extract f s.size).size = s.extract (i + 1) s.size := by
    rw [ByteArray.extract_extract, ByteArray.size_extract]; congr 1 <;> omega
  rw [e1, e2]
theorem pcs_last (c : UInt8) (s : ByteArray) (f : Nat) (hn : ∀ j, f ≤ j → j < s.size → s.data.toList[j]? ≠ some c) : pcs c (s.extract f s.size) = [s.extract f s.size] := by
  refine pcs_miss c _ (fun j => ?_)
  rw [ext_get]
  rcases Nat.lt_or_ge (f + j) s.size with h | h
  · exact hn _ (by omega) h
  · rw [List.getElem?_eq_none (by simpa using h)]; simp
theorem pcs_whole (c : UInt8) (s : ByteArray) : pcs c (s.extract 0 s.size) = pcs c s := by
  congr 1
  apply ByteArray.ext; simp
theorem pcs_len (c : UInt8) (s : ByteArray) : (pcs c s).length = countB s ⟨#[c]⟩ + 1 := splitB_all ⟨#[c]⟩ (Nat.le_refl 1) 0 _ s rfl
theorem pcs_len_le (c : UInt8) (s : ByteArray) : (pcs c s).length ≤ s.size + 1 := by
  rw [pcs_len]; have := countB_le ⟨#[c]⟩ (Nat.le_refl 1) s.size s (Nat.le_refl _); omega
end Go.Proofs.YtlbgkdkgembkkaaDoor
