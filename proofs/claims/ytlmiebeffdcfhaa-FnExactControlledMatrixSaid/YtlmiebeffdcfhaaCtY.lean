/- Plain: how large a controlled matrix is. -/
import Derived.Test.YtlmiebeffdcfhaaCtX
import Derived.Test.YtlmiebeffdcfhaaMtS
namespace Go.Proofs.Ytlmiebeffdcfhaa
open Go.RowKit
theorem zero_okC : Dw.zero.ok := by decide
theorem amps_leC : ∀ {M : List (List Dw)}, (∀ r ∈ M, r.length ≤ 16) → amps M ≤ M.length * 16
  | [], _ => by simp [amps]
  | r :: M, h => by
    have h1 := amps_leC (M := M) fun s hs => h s (List.mem_cons_of_mem _ hs)
    have h2 := h r List.mem_cons_self
    have e : amps (r :: M) = r.length + amps M := by simp [amps]
    rw [e, List.length_cons, Nat.succ_mul]
    omega
theorem getD_okC {r : List Dw} (h : ∀ x ∈ r, x.ok) (k : Nat) : (r.getD k .zero).ok := by
  rw [List.getD_eq_getElem?_getD]
  cases e : r[k]? with
  | none => exact zero_okC
  | some x => exact h x (List.mem_of_getElem? e)
theorem ctM_amps (q : Int) (M : List (List Dw)) : (ctM q M).length ≤ 16 ∧ amps (ctM q M) ≤ 256 ∧ EbM (ctM q M) := by
  cases h : ctMB q M with
  | false => rw [show ctM q M = [] by unfold ctM; rw [h]; rfl]; exact ⟨Nat.zero_le _, Nat.zero_le _, fun r hr => absurd hr List.not_mem_nil⟩
  | true =>
    have hM : mtB M = true := by rw [ctMB_eq] at h; exact (Bool.and_eq_true_iff.1 h).1
    rw [show ctM q M = ctV q.toNat M by unfold ctM; rw [h]; rfl]
    have h1 := mtB_len hM
    have hok : ∀ r ∈ M, ∀ x ∈ r, x.ok := fun r hr => (stB_iff.1 ((mtB_iff.1 hM).2 r hr).2).1
    have hat : ∀ i k, ((M.getD i []).getD k .zero).ok := fun i k => by
      refine getD_okC (fun x hx => ?_) k
      rw [List.getD_eq_getElem?_getD] at hx
      cases e : M[i]? with
      | none => rw [e] at hx; exact absurd hx List.not_mem_nil
      | some r => rw [e] at hx; exact hok r (List.mem_of_getElem? e) x hx
    have hrow : ∀ r ∈ ctV q.toNat M, r.length ≤ 16 ∧ ∀ x ∈ r, x.ok := fun r hr => by
      rw [ctV_eq] at hr
      obtain ⟨i, -, rfl⟩ := List.mem_map.1 hr
      refine ⟨by rw [ctRow_len]; exact h1, fun x hx => ?_⟩
      obtain ⟨k, -, rfl⟩ := List.mem_map.1 hx
      split
      · exact hat i k
      · split
        · exact oneD_ok
        · exact zero_okC
    refine ⟨by rw [ctV_len]; exact h1, ?_, fun r hr x hx => ?_⟩
    · have h2 := amps_leC fun r hr => (hrow r hr).1
      rw [ctV_len] at h2
      omega
    · have h3 := ((hrow r hr).2 x hx).2
      omega
end Go.Proofs.Ytlmiebeffdcfhaa
