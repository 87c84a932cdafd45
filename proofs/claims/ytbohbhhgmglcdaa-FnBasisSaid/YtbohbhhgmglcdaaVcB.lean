/- Plain: basis states are orthonormal. -/
import Derived.Test.YtbohbhhgmglcdaaDsP
import Derived.Test.YtbohbhhgmglcdaaDsD
namespace Go.Proofs.Ytbohbhhgmglcdaa
open Go.RowKit
def bst (N k : Nat) : List Dw := (List.replicate N Dw.zero).set k oneD
theorem bst2 : ∀ k i : Fin 2, innO (bst 2 k.val) (bst 2 i.val) = some (if k = i then oneD else .zero) := by decide +kernel
theorem bst4 : ∀ k i : Fin 4, innO (bst 4 k.val) (bst 4 i.val) = some (if k = i then oneD else .zero) := by decide +kernel
theorem bst8 : ∀ k i : Fin 8, innO (bst 8 k.val) (bst 8 i.val) = some (if k = i then oneD else .zero) := by decide +kernel
theorem bst16 : ∀ k i : Fin 16, innO (bst 16 k.val) (bst 16 i.val) = some (if k = i then oneD else .zero) := by decide +kernel
theorem bst_st : (∀ k : Fin 2, stB (bst 2 k.val) = true) ∧ (∀ k : Fin 4, stB (bst 4 k.val) = true) ∧ (∀ k : Fin 8, stB (bst 8 k.val) = true) ∧ (∀ k : Fin 16, stB (bst 16 k.val) = true) := by decide +kernel
/-- A basis state that there is. -/
def Bs (n : Int) (N : Nat) : Prop := (n = 1 ∧ N = 2) ∨ (n = 2 ∧ N = 4) ∨ (n = 3 ∧ N = 8) ∨ (n = 4 ∧ N = 16)
theorem bs_of {n i : Int} (h : 1 ≤ n ∧ n ≤ 4 ∧ 0 ≤ i ∧ i ≤ 2 ^ n.toNat - 1) : ∃ N k : Nat, Bs n N ∧ i = k ∧ k < N := by
  obtain ⟨h0, h1, h2, h3⟩ := h
  obtain ⟨k, rfl⟩ : ∃ k : Nat, i = k := ⟨i.toNat, by omega⟩
  rcases (show n = 1 ∨ n = 2 ∨ n = 3 ∨ n = 4 by omega) with rfl | rfl | rfl | rfl
  · exact ⟨2, k, .inl ⟨rfl, rfl⟩, rfl, by have : (k : Int) ≤ 1 := h3; omega⟩
  · exact ⟨4, k, .inr (.inl ⟨rfl, rfl⟩), rfl, by have : (k : Int) ≤ 3 := h3; omega⟩
  · exact ⟨8, k, .inr (.inr (.inl ⟨rfl, rfl⟩)), rfl, by have : (k : Int) ≤ 7 := h3; omega⟩
  · exact ⟨16, k, .inr (.inr (.inr ⟨rfl, rfl⟩)), rfl, by have : (k : Int) ≤ 15 := h3; omega⟩
theorem bs_list {n : Int} {N k : Nat} (h : Bs n N) (hk : k < N) : basisL n k = bst N k := by
  rcases h with ⟨rfl, rfl⟩ | ⟨rfl, rfl⟩ | ⟨rfl, rfl⟩ | ⟨rfl, rfl⟩
  · exact if_pos ⟨by decide, by decide, by omega, by show (k : Int) ≤ 1; omega⟩
  · exact if_pos ⟨by decide, by decide, by omega, by show (k : Int) ≤ 3; omega⟩
  · exact if_pos ⟨by decide, by decide, by omega, by show (k : Int) ≤ 7; omega⟩
  · exact if_pos ⟨by decide, by decide, by omega, by show (k : Int) ≤ 15; omega⟩
theorem bs_inn {n : Int} {N k i : Nat} (h : Bs n N) (hk : k < N) (hi : i < N) : innV (bst N k) (bst N i) = (if k = i then oneD else .zero) ∧ innB (bst N k) (bst N i) = true := by
  have e : innO (bst N k) (bst N i) = some (if k = i then oneD else .zero) := by
    rcases h with ⟨rfl, rfl⟩ | ⟨rfl, rfl⟩ | ⟨rfl, rfl⟩ | ⟨rfl, rfl⟩
    · simpa using bst2 ⟨k, hk⟩ ⟨i, hi⟩
    · simpa using bst4 ⟨k, hk⟩ ⟨i, hi⟩
    · simpa using bst8 ⟨k, hk⟩ ⟨i, hi⟩
    · simpa using bst16 ⟨k, hk⟩ ⟨i, hi⟩
  exact ⟨by unfold innV; rw [e]; rfl, by unfold innB; rw [e]; rfl⟩
theorem bst_len (N k : Nat) : (bst N k).length = N := by simp [bst]
theorem bs_st {n : Int} {N k : Nat} (h : Bs n N) (hk : k < N) : stB (bst N k) = true ∧ qc (bst N k).length = n ∧ 0 < N ∧ N ≤ 16 := by
  obtain ⟨s1, s2, s3, s4⟩ := bst_st
  rw [bst_len]
  rcases h with ⟨rfl, rfl⟩ | ⟨rfl, rfl⟩ | ⟨rfl, rfl⟩ | ⟨rfl, rfl⟩
  · exact ⟨s1 ⟨k, hk⟩, rfl, by omega, by omega⟩
  · exact ⟨s2 ⟨k, hk⟩, rfl, by omega, by omega⟩
  · exact ⟨s3 ⟨k, hk⟩, rfl, by omega, by omega⟩
  · exact ⟨s4 ⟨k, hk⟩, rfl, by omega, by omega⟩
theorem st_eb {l : List Dw} (h : stB l = true) : Eb l := fun x hx => by have := ((stB_iff.1 h).1 x hx).2; omega
theorem one_not : eqDB oneD .zero = false ∧ eqDB .zero oneD = false := by decide
end Go.Proofs.Ytbohbhhgmglcdaa
