/- The laws' helpers over matrices, as the laws' walks take them. -/
import Derived.Test.YtlmiebeffdcfhaaMtO
import Derived.Test.YtlmiebeffdcfhaaMtN
import Derived.Test.YtlmiebeffdcfhaaBaseB12
namespace Go.Proofs.Ytlmiebeffdcfhaa
open Go.RowKit
theorem toMtB (a0 : Option Addr) (cap B : Nat) (M : List (List Dw)) (w : World) (hin : MtIn w B a0 M) (hB : B ≤ w.heap.size) (hn1 : M.length ≤ 1048576) (hn2 : amps M ≤ 1048576) :
    Calls Try.prog 18 #[.slice a0 M.length cap] w fun e w' => ∃ v, e = .returned v ∧ DSM w' w.heap.size w'.heap.size v M ∧ Below w.heap.size w w' := toMt a0 cap M w (hin.mono hB) hn1 hn2
theorem szMFit (a0 : Option Addr) (cap B : Nat) (M : List (List Dw)) (l : Int) (w : World) (hin : MtIn w B a0 M) (h : (M.length : Int) + amps M ≤ l) (l1 : l ≤ 1048576) :
    Calls Try.prog 16 #[.slice a0 M.length cap, .int .i64 l] w fun e w' => e = .returned (.int .i64 (l - M.length - amps M)) ∧ w = w' := by
  have h2 := szMt a0 cap B M l w hin (by omega) l1
  rwa [if_pos h] at h2
theorem szMBig (a0 : Option Addr) (cap B : Nat) (M : List (List Dw)) (l : Int) (w : World) (hin : MtIn w B a0 M) (h : ¬ (M.length : Int) + amps M ≤ l) (l0 : 0 ≤ l) (l1 : l ≤ 1048576) :
    Calls Try.prog 16 #[.slice a0 M.length cap, .int .i64 l] w fun e w' => e = .returned (.int .i64 (-1)) ∧ w = w' := by
  have h2 := szMt a0 cap B M l w hin l0 l1
  rwa [if_neg h] at h2
theorem markM1 (B C : Nat) (v : Value) (M : List (List Dw)) (w : World) (hv : DSM w B C v M) (hn : M.length ≤ 1048576) (hm : amps M ≤ 1048576) :
    Calls Try.prog 21 #[v, .int .i64 1] w fun e w' => e = .returned (.int .i64 (1 + (amps M : Int) * 5)) ∧ DSM w' B C v (marksM 1 M) ∧ Mid B C w w' := by
  refine (markMt B C 1 v M w hv hn hm (by omega)).mono ?_
  rintro e w1 ⟨rfl, h⟩
  exact ⟨by simp, h⟩
theorem markM2 (B C m : Nat) (v : Value) (M : List (List Dw)) (w : World) (hv : DSM w B C v M) (hn : M.length ≤ 1048576) (hm : amps M ≤ 1048576) (hm' : m ≤ 1048576) :
    Calls Try.prog 21 #[v, .int .i64 (1 + (m : Int) * 5)] w fun e w' => e = .returned (.int .i64 (1 + (m : Int) * 5 + (amps M : Int) * 5)) ∧ DSM w' B C v (marksM (1 + m * 5) M) ∧ Mid B C w w' := by
  have h := markMt B C (1 + m * 5) v M w hv hn hm (by omega)
  rw [show ((1 + m * 5 : Nat) : Int) = 1 + (m : Int) * 5 by simp] at h
  refine h.mono ?_
  rintro e w1 ⟨rfl, h⟩
  exact ⟨by simp, h⟩
theorem heldM1 (B C : Nat) (v : Value) (M : List (List Dw)) (w : World) (hv : DSM w B C v (marksM 1 M)) (hn : M.length ≤ 1048576) (hm : amps M ≤ 1048576) :
    Calls Try.prog 22 #[v, .int .i64 1] w fun e w' => e = .returned (.int .i64 (1 + (amps M : Int) * 5)) ∧ w = w' := by
  refine (heldMt B C 1 v M w hv hn hm (by omega)).mono ?_
  rintro e w1 ⟨rfl, h⟩
  exact ⟨by simp, h⟩
theorem Mid.low {B C : Nat} {w w' : World} (h : Mid B C w w') : w.heap.size ≤ w'.heap.size := h.1.size
end Go.Proofs.Ytlmiebeffdcfhaa
