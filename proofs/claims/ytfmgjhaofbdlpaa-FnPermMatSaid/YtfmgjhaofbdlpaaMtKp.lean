/- Plain: a product with zero, a sum with zero; a row times a state, its products first and then their sum. -/
import Derived.Test.YtfmgjhaofbdlpaaBaseB12
import Derived.Test.YtfmgjhaofbdlpaaDsKc
import Derived.Test.YtfmgjhaofbdlpaaBaseB16
namespace Go.Proofs.Ytfmgjhaofbdlpaa
theorem root_zero : Zw.zero.root = Zw.zero := by decide
theorem rootN_zero : ∀ k : Nat, rootN k Zw.zero = Zw.zero
  | 0 => rfl
  | k + 1 => by rw [rootN, root_zero]; exact rootN_zero k
theorem upB_zero : ∀ k : Nat, upB k Zw.zero = true
  | 0 => rfl
  | k + 1 => by rw [upB, root_zero, upB_zero k]; decide
theorem red_zero : ∀ k : Nat, red k Zw.zero = (Zw.zero, 0)
  | 0 => rfl
  | k + 1 => by rw [red, if_pos (by decide), show divV Zw.zero = Zw.zero by decide]; exact red_zero k
theorem mul_zeroZ (x : Zw) : x.mul .zero = .zero := by simp [Zw.mul, Zw.zero]
theorem add_zeroZ (x : Zw) : x.add .zero = x := by simp [Zw.add, Zw.zero]
theorem new_zero {k : Int} (h0 : 0 ≤ k) (h1 : k ≤ 120) : newB .zero k = true ∧ newV .zero k = .zero := by
  have hb : newB .zero k = true := newB_iff.2 ⟨by decide, h0, h1, by rw [red_zero]; exact Nat.zero_le _⟩
  exact ⟨hb, by rw [newV_of hb, red_zero]; rfl⟩
theorem dmul_zero {x : Dw} (h : x.ok) : dMulB x .zero = true ∧ dMulV x .zero = .zero := by
  have hn := new_zero (k := x.e + Dw.zero.e) (by show 0 ≤ x.e + 0; have := h.2; omega) (by show x.e + 0 ≤ 120; have := h.2; omega)
  have hm : x.n.mul Dw.zero.n = .zero := mul_zeroZ x.n
  have hb : dMulB x .zero = true := dMulB_iff.2 ⟨h, zero_ok, mulB_iff.2 ⟨h.1, by decide, by rw [hm]; decide⟩, by rw [hm]; exact hn.1⟩
  exact ⟨hb, by rw [dMulV_of hb, hm]; exact hn.2⟩
theorem dzero_mul {x : Dw} (h : x.ok) : dMulB .zero x = true ∧ dMulV .zero x = .zero := by
  rw [dMulB_comm x .zero, dMulV_comm x .zero]
  exact dmul_zero h
theorem dadd_zeroK {s : Dw} (h : s.ok) : dAddB s .zero = true ∧ dAddV s .zero = s := by
  have ht : topE s .zero = s.e := by
    have := h.2
    unfold topE
    show (if (0 : Int) < s.e then s.e else 0) = s.e
    split <;> omega
  have ha : numA s .zero = s.n := by unfold numA; rw [ht, Int.sub_self]; rfl
  have hb : numB s .zero = .zero := by unfold numB; exact rootN_zero _
  have hs := newV_self h
  have e : dAddB s .zero = true := dAddB_iff.2 ⟨h, zero_ok, by rw [ht, Int.sub_self]; rfl, upB_zero _, by rw [ha, hb]; exact addB_iff.2 ⟨h.1, by decide, by rw [add_zeroZ]; exact h.1⟩, by rw [ha, hb, add_zeroZ, ht]; exact hs.1⟩
  exact ⟨e, by rw [dAddV_of e, ha, hb, add_zeroZ, ht]; exact hs.2⟩
theorem mrow_sum : ∀ (l : List (Dw × Dw)) (s : Dw), s.ok → (∀ p ∈ l, p.1.ok ∧ p.2.ok) → mrow s l = if l.all (fun p => dMulB p.1 p.2) then sumD s (l.map fun p => dMulV p.1 p.2) else none
  | [], s, _, _ => rfl
  | p :: l, s, hs, hl => by
    have hp := hl p (List.mem_cons_self ..)
    have hl' := fun q hq => hl q (List.mem_cons_of_mem _ hq)
    rw [mrow]
    simp only [List.all_cons, List.map_cons, sumD]
    by_cases hz : p.1 = .zero ∨ p.2 = .zero
    · have hm : dMulB p.1 p.2 = true ∧ dMulV p.1 p.2 = .zero := by
        rcases hz with h | h
        · rw [h]; exact dzero_mul hp.2
        · rw [h]; exact dmul_zero hp.1
      rw [if_pos hz, hm.1, hm.2, (dadd_zeroK hs).1, (dadd_zeroK hs).2, mrow_sum l s hs hl']
      simp only [Bool.true_and, if_true]
    · rw [if_neg hz]
      cases hb : dMulB p.1 p.2
      · simp
      · cases ha : dAddB s (dMulV p.1 p.2)
        · simp
        · rw [mrow_sum l _ (dAddV_ok ha) hl']
          simp only [Bool.true_and, Bool.and_self, if_true]
theorem row_sum {a b : List Dw} (ha : ∀ x ∈ a, x.ok) (hb : ∀ x ∈ b, x.ok) : rowO a b = if cmbB dMulB a b then sumD .zero (cmbL dMulV dMulB a b) else none := by
  have h := mrow_sum (a.zip b) .zero zero_ok fun p hp => ⟨ha _ (List.of_mem_zip hp).1, hb _ (List.of_mem_zip hp).2⟩
  unfold rowO
  rw [h]
  by_cases hc : cmbB dMulB a b = true
  · rw [if_pos (show (a.zip b).all (fun p => dMulB p.1 p.2) = true from hc), if_pos hc, cmbL, if_pos hc]
  · rw [if_neg (show ¬ (a.zip b).all (fun p => dMulB p.1 p.2) = true from hc), if_neg hc]
theorem eb_cmbM (a b : List Dw) : Eb (cmbL dMulV dMulB a b) := by
  intro y hy
  unfold cmbL at hy
  split at hy
  · obtain ⟨p, -, rfl⟩ := List.mem_map.1 hy
    exact mul_eb _ _
  · cases hy
theorem len_cmbM (V : Dw → Dw → Dw) (T : Dw → Dw → Bool) (a b : List Dw) : (cmbL V T a b).length ≤ b.length := by
  unfold cmbL
  split
  · rw [List.length_map, List.length_zip]; omega
  · exact Nat.zero_le _
end Go.Proofs.Ytfmgjhaofbdlpaa
