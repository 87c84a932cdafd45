/- B01: several of our texts in one: Cur Draw1 JoinP Row. -/
import Derived.Test.YtbnkanlebjpkfaaDoorB06
import Derived.WalkKit
import Derived.WalkSpells
import Derived.WalkLawsBesides
import Derived.Lib.Hide
import Derived.OneCell
import Derived.Deep.QuietTactic
import Derived.BigQuiet
import Derived.OpenShut
import Derived.Lib.Join
namespace Go.Proofs.YtbnkanlebjpkfaaDoor
open Go.RowKit
/-- The code's bytes are there, below block B. -/
def CodeAt (w : World) (B : Nat) (a0 : Option Addr) (len : Nat) : Prop :=
  len ≤ 140737488351232 ∧ (0 < len → ∃ b off, a0 = some ⟨b, off, none⟩ ∧ b < B ∧ ∀ j, j < len → ∃ v : Int, 0 ≤ v ∧ v ≤ 255 ∧ w.cell? ⟨b, off + j, none⟩ = some (.int .u8 v))
theorem CodeAt.below {w w' : World} {B : Nat} {a0 : Option Addr} {len : Nat} (h : CodeAt w B a0 len) (hb : Below B w w') : CodeAt w' B a0 len :=
  ⟨h.1, fun h0 => by
    obtain ⟨b, off, e, hlt, hc⟩ := h.2 h0
    exact ⟨b, off, e, hlt, fun j hj => by obtain ⟨v, v0, v1, hv⟩ := hc j hj; exact ⟨v, v0, v1, by rw [hb.cell (by exact hlt)]; exact hv⟩⟩⟩
theorem CodeAt.mono {w : World} {B C : Nat} {a0 : Option Addr} {len : Nat} (h : CodeAt w B a0 len) (hB : B ≤ C) : CodeAt w C a0 len :=
  ⟨h.1, fun h0 => by obtain ⟨b, off, e, hlt, hc⟩ := h.2 h0; exact ⟨b, off, e, Nat.lt_of_lt_of_le hlt hB, hc⟩⟩
theorem CodeAt.own {w w' : World} {B : Nat} {a0 : Option Addr} {len : Nat} (h : CodeAt w B a0 len) (hb : Own B w w') : CodeAt w' B a0 len :=
  ⟨h.1, fun h0 => by
    obtain ⟨b, off, e, hlt, hc⟩ := h.2 h0
    refine ⟨b, off, e, hlt, fun j hj => ?_⟩
    obtain ⟨v, v0, v1, hv⟩ := hc j hj
    refine ⟨v, v0, v1, ?_⟩
    have hs := World.block_lt_of_cell? _ _ hv
    rw [World.cell?_of_block (w := w) (hb.block b hs (by intro e; injection e with e; omega))]
    exact hv⟩
end Go.Proofs.YtbnkanlebjpkfaaDoor
namespace Go.Proofs.YtbnkanlebjpkfaaDoor
open Go.RowKit
/-- A list that the call itself made: its cells, one an element. -/
def ListAt (w : World) (b n : Nat) (f : Nat → Value) : Prop := ∀ j, j < n → w.cell? ⟨b, j, none⟩ = some (f j)
theorem ListAt.own {w w' : World} {B b n : Nat} {f : Nat → Value} (h : ListAt w b n f) (ho : Own B w w') (hne : b ≠ B) : ListAt w' b n f := fun j hj =>
  World.grownBy.cell ho (h j hj) (by intro e; injection e with e; exact hne e)
end Go.Proofs.YtbnkanlebjpkfaaDoor
namespace Go.Proofs.YtbnkanlebjpkfaaDoor
open Go.Lib
theorem join_step (x : List UInt8) (r : List (List UInt8)) (sep : List UInt8) (h : r ≠ []) : join (x :: r) sep = x ++ (sep ++ join r sep) := by
  cases r with
  | nil => exact absurd rfl h
  | cons y r => rw [join_cons, join_cons]; simp [joinTail]
theorem pcs_ne (c : UInt8) (s : ByteArray) : (pcs c s).map (·.data.toList) ≠ [] := by
  intro h
  have := congrArg List.length h
  simp [pcs_len] at this
theorem join_pcs (c : UInt8) : ∀ (n : Nat) (s : ByteArray), s.size ≤ n → join ((pcs c s).map (·.data.toList)) [c] = s.data.toList := by
  intro n
  induction n with
  | zero =>
    intro s hs
    rw [pcs_miss c s (fun j h => by
      rw [List.getElem?_eq_none (by simp; omega)] at h; cases h)]
    simp [join_one]
  | succ n ih =>
    intro s hs
    rcases index_spec s.data.toList [c] with ⟨_, hno⟩ | ⟨i, _, hi, ho, hno⟩
    · rw [pcs_miss c s (fun j h => by
        have hj : j < s.data.toList.length := by
          rcases Nat.lt_or_ge j s.data.toList.length with h' | h'
          · exact h'
          · rw [List.getElem?_eq_none h'] at h; cases h
        have := hno j (Nat.le_of_lt hj)
        rw [occ_one, h] at this
        simp at this)]
      simp [join_one]
    · have hget : s.data.toList[i]? = some c := by rw [occ_one] at ho; simpa using ho
      have hlt : i < s.data.toList.length := by
        rcases Nat.lt_or_ge i s.data.toList.length with h' | h'
        · exact h'
        · rw [List.getElem?_eq_none h'] at hget; cases hget
      rw [pcs_hit c s i hget (fun j hj h => by
        have := hno j hj
        rw [occ_one, h] at this
        simp at this)]
      have hsz : s.size = s.data.toList.length := by simp
      rw [List.map_cons, join_step _ _ _ (pcs_ne c _), ih (s.extract (i + 1) s.size) (by rw [ByteArray.size_extract]; omega), extract_from_zero, extract_to_end]
      rw [List.getElem?_eq_getElem hlt] at hget
      injection hget with hget
      have e : s.data.toList.take i ++ c :: s.data.toList.drop (i + 1) = s.data.toList := by
        rw [← hget, List.getElem_cons_drop, List.take_append_drop]
      rw [List.singleton_append]
      exact e
end Go.Proofs.YtbnkanlebjpkfaaDoor
namespace Go.Proofs.YtbnkanlebjpkfaaDoor
open Go.RowKit
/-- A row of n strings at the head of block b. -/
def StrRow (w : World) (b n : Nat) (f : Nat → ByteArray) : Prop := ∃ cs, w.heap[b]? = some (.cells cs 9 (0, 0)) ∧ ∀ j, j < n → cs[j]? = some (.string (f j))
theorem StrRow.cell {w : World} {b n : Nat} {f : Nat → ByteArray} (h : StrRow w b n f) {j : Nat} (hj : j < n) : w.cell? ⟨b, j, none⟩ = some (.string (f j)) := by
  obtain ⟨cs, h1, h2⟩ := h; exact cell_at h1 j _ (h2 j hj)
theorem StrRow.free {w : World} {b n : Nat} {f : Nat → ByteArray} (h : StrRow w b n f) (j : Nat) : w.frozen? ⟨b, j, none⟩ = false := by
  obtain ⟨cs, h1, h2⟩ := h; exact free_at h1 j
theorem StrRow.lt {w : World} {b n : Nat} {f : Nat → ByteArray} (h : StrRow w b n f) : b < w.heap.size := by
  obtain ⟨cs, h1, h2⟩ := h; exact lt_of_block h1
theorem StrRow.below {w w' : World} {b n B : Nat} {f : Nat → ByteArray} (h : StrRow w b n f) (hb : Below B w w') (hB : b < B) : StrRow w' b n f := by
  obtain ⟨cs, h1, h2⟩ := h; exact ⟨cs, by rw [hb.block b hB]; exact h1, h2⟩
theorem StrRow.own {w w' : World} {b n B : Nat} {f : Nat → ByteArray} (h : StrRow w b n f) (hb : Own B w w') (hB : b ≠ B) : StrRow w' b n f := by
  obtain ⟨cs, h1, h2⟩ := h; exact ⟨cs, by rw [hb.block b (lt_of_block h1) (by intro e; injection e with e; exact hB e)]; exact h1, h2⟩
theorem StrRow.set {w : World} {b n : Nat} {f : Nat → ByteArray} (h : StrRow w b n f) (j : Nat) (hj : j < n) (x : ByteArray) : StrRow (w.setCell ⟨b, j, none⟩ (.string x)) b n (fun t => if t = j then x else f t) := by
  obtain ⟨cs, h1, h2⟩ := h
  refine ⟨_, heap_set h1 j (.string x), fun t ht => ?_⟩
  have hsz : j < cs.size := by
    have := h2 j hj
    rcases Nat.lt_or_ge j cs.size with h' | h'
    · exact h'
    · rw [Array.getElem?_eq_none h'] at this; cases this
  rw [Array.getElem?_setIfInBounds]
  by_cases e : j = t
  · subst e; simp [hsz]
  · rw [if_neg e, h2 t ht]; simp [show ¬ t = j from fun h => e h.symm]
end Go.Proofs.YtbnkanlebjpkfaaDoor
