/- BaseB11: several of our texts in one: MtW MtA MtM MtD MtI MtU PmL. -/
import Derived.Test.YtfmgjhaofbdlpaaBaseB10
import Derived.Test.YtfmgjhaofbdlpaaBaseB09
import Derived.Test.YtfmgjhaofbdlpaaDwN
import Derived.Test.YtfmgjhaofbdlpaaDsB
import Derived.Test.YtfmgjhaofbdlpaaBaseB12
namespace Go.Proofs.Ytfmgjhaofbdlpaa
open Go.RowKit
theorem mrow_step {s : Dw} {l : List (Dw × Dw)} {j : Nat} {p : Dw × Dw} (hp : l[j]? = some p) :
    mrow s (l.drop j) = if p.1 = .zero ∨ p.2 = .zero then mrow s (l.drop (j + 1)) else if dMulB p.1 p.2 && dAddB s (dMulV p.1 p.2) then mrow (dAddV s (dMulV p.1 p.2)) (l.drop (j + 1)) else none := by
  have hj : j < l.length := by
    rcases Nat.lt_or_ge j l.length with h | h
    · exact h
    · rw [List.getElem?_eq_none h] at hp; cases hp
  have e : l.drop j = p :: l.drop (j + 1) := by
    rw [List.getElem?_eq_getElem hj] at hp
    injection hp with hp
    rw [← hp]
    exact (List.getElem_cons_drop ..).symm
  rw [e, mrow]
attribute [local irreducible] World.cell?
end Go.Proofs.Ytfmgjhaofbdlpaa
namespace Go.Proofs.Ytfmgjhaofbdlpaa
open Go.RowKit
theorem appB_of {M : List (List Dw)} {v : List Dw} (hM : mtB M = true) (hv : stB v = true) (hl : M.length = v.length) : appB M v = M.all fun r => rowB r v := by
  unfold appB; rw [hM, hv, decide_eq_true hl]; rfl
theorem app_step {M : List (List Dw)} {v : List Dw} {j : Nat} {r : List Dw} (hr : M[j]? = some r) : flat ((M.map fun r => rowV r v).take j) ++ fl (rowV r v) = flat ((M.map fun r => rowV r v).take (j + 1)) := by
  rw [List.take_add_one, List.getElem?_map, hr, flat_app]
  simp [flat]
attribute [local irreducible] World.cell?
end Go.Proofs.Ytfmgjhaofbdlpaa
namespace Go.Proofs.Ytfmgjhaofbdlpaa
open Go.RowKit
theorem mulMB_of {A B : List (List Dw)} (hA : mtB A = true) (hB : mtB B = true) (hl : A.length = B.length) : mulMB A B = (List.range B.length).all fun k => appB A (col B k) := by
  unfold mulMB; rw [hA, hB, decide_eq_true hl]; rfl
theorem mulML_len (A B : List (List Dw)) : (mulML A B).length = B.length := by rw [mulML, List.length_map, List.length_range]
theorem mulML_step {A B : List (List Dw)} {j : Nat} (hj : j < B.length) : (mulML A B).take (j + 1) = (mulML A B).take j ++ [appL A (col B j)] := by
  rw [List.take_add_one, mulML, List.getElem?_map, List.getElem?_range hj]
  rfl
theorem range_take (n j : Nat) (h : j ≤ n) : (List.range n).take j = List.range j := by rw [List.take_range, Nat.min_eq_left h]
attribute [local irreducible] World.cell?
end Go.Proofs.Ytfmgjhaofbdlpaa
namespace Go.Proofs.Ytfmgjhaofbdlpaa
open Go.RowKit
theorem adjM_yes {M : List (List Dw)} (h : mtB M = true) : adjM M = (List.range M.length).map fun i => (col M i).map dConjV := if_pos h
theorem adjM_no {M : List (List Dw)} (h : mtB M = false) : adjM M = [] := if_neg (by rw [h]; decide)
theorem adjM_len {M : List (List Dw)} (h : mtB M = true) : (adjM M).length = M.length := by rw [adjM_yes h, List.length_map, List.length_range]
theorem adjM_step {M : List (List Dw)} (h : mtB M = true) {j : Nat} (hj : j < M.length) : (adjM M).take (j + 1) = (adjM M).take j ++ [(col M j).map dConjV] := by
  rw [List.take_add_one, adjM_yes h, List.getElem?_map, List.getElem?_range hj]
  rfl
theorem turn_at {l : List Dw} {f : Dw → Dw} {k : Nat} {x : Dw} (hx : l[k]? = some x) : ((l.map f).take k ++ l.drop k)[k]? = some x := by
  have h : k < l.length := by
    rcases Nat.lt_or_ge k l.length with h' | h'
    · exact h'
    · rw [List.getElem?_eq_none h'] at hx; cases hx
  rw [List.getElem?_append_right (by simp; omega), List.getElem?_drop]
  rw [show k + (k - ((l.map f).take k).length) = k by simp; omega]
  exact hx
theorem turn_set {l : List Dw} {f : Dw → Dw} {k : Nat} {x : Dw} (hx : l[k]? = some x) : ((l.map f).take k ++ l.drop k).set k (f x) = (l.map f).take (k + 1) ++ l.drop (k + 1) := by
  have h : k < l.length := by
    rcases Nat.lt_or_ge k l.length with h' | h'
    · exact h'
    · rw [List.getElem?_eq_none h'] at hx; cases hx
  have e : l.drop k = x :: l.drop (k + 1) := by
    rw [List.getElem?_eq_getElem h] at hx
    injection hx with hx
    rw [← hx]
    exact (List.getElem_cons_drop ..).symm
  rw [List.set_append_right _ _ (by simp; omega), show k - ((l.map f).take k).length = 0 by simp; omega, e, List.set_cons_zero, List.take_add_one, List.getElem?_map, hx, List.append_assoc]
  rfl
attribute [local irreducible] World.cell?
end Go.Proofs.Ytfmgjhaofbdlpaa
namespace Go.Proofs.Ytfmgjhaofbdlpaa
open Go.RowKit
theorem idM_yes {n : Int} (h : 1 ≤ n ∧ n ≤ 4) : idM n = (List.range (2 ^ n.toNat)).map fun (i : Nat) => basisL n (i : Int) := if_pos h
theorem idM_no {n : Int} (h : ¬ (1 ≤ n ∧ n ≤ 4)) : idM n = [] := if_neg h
theorem idM_len {n : Int} (h : 1 ≤ n ∧ n ≤ 4) : (idM n).length = 2 ^ n.toNat := by rw [idM_yes h, List.length_map, List.length_range]
theorem idM_step {n : Int} (h : 1 ≤ n ∧ n ≤ 4) {j : Nat} (hj : j < 2 ^ n.toNat) : (idM n).take (j + 1) = (idM n).take j ++ [basisL n (j : Int)] := by
  rw [List.take_add_one, idM_yes h, List.getElem?_map, List.getElem?_range hj]
  rfl
attribute [local irreducible] World.cell?
end Go.Proofs.Ytfmgjhaofbdlpaa
namespace Go.Proofs.Ytfmgjhaofbdlpaa
open Go.RowKit
theorem amps_rect {n : Nat} : ∀ {M : List (List Dw)}, (∀ r ∈ M, r.length = n) → amps M = M.length * n
  | [], _ => by simp [amps]
  | r :: M, h => by
    have h1 := amps_rect (M := M) fun s hs => h s (List.mem_cons_of_mem _ hs)
    have h2 := h r (List.mem_cons_self ..)
    unfold amps at *
    rw [List.map_cons, List.sum_cons, h1, h2, List.length_cons, Nat.succ_mul]
    omega
theorem small_amps {n k : Nat} {M : List (List Dw)} (h : ∀ r ∈ M, r.length = n) (hl : M.length = k) (hk : k ≤ 16) (hn : n ≤ 16) : amps M ≤ 256 := by
  rw [amps_rect h, hl]
  exact Nat.mul_le_mul hk hn
theorem mtB_amps {M : List (List Dw)} (h : mtB M = true) : amps M ≤ 256 := small_amps (fun r hr => ((mtB_iff.1 h).2 r hr).1) rfl (mtB_len h) (mtB_len h)
theorem adjM_amps (M : List (List Dw)) : (adjM M).length ≤ 16 ∧ amps (adjM M) ≤ 256 := by
  cases h : mtB M with
  | false => rw [adjM_no h]; exact ⟨by decide, by decide⟩
  | true =>
    have hl := adjM_len h
    have h16 := mtB_len h
    refine ⟨by omega, small_amps (n := M.length) (fun r hr => ?_) hl h16 h16⟩
    rw [adjM_yes h] at hr
    obtain ⟨i, _, rfl⟩ := List.mem_map.1 hr
    rw [List.length_map, col_len]
theorem mulM_amps (A B : List (List Dw)) : (mulM A B).length ≤ 16 ∧ amps (mulM A B) ≤ 256 := by
  cases h : mulMB A B with
  | false => rw [show mulM A B = [] from if_neg (by rw [h]; decide)]; exact ⟨by decide, by decide⟩
  | true =>
    have hB : mtB B = true := by
      unfold mulMB at h
      simp only [Bool.and_eq_true] at h
      exact h.1.1.2
    have h16 := mtB_len hB
    have hl : (mulM A B).length = B.length := by rw [show mulM A B = colsM (mulML A B) from if_pos h, colsM_len, mulML_len]
    refine ⟨by omega, small_amps (n := B.length) (fun r hr => ?_) hl h16 h16⟩
    rw [show mulM A B = colsM (mulML A B) from if_pos h] at hr
    obtain ⟨i, _, rfl⟩ := List.mem_map.1 hr
    rw [col_len, mulML_len]
theorem basisL_len (n i : Int) : (basisL n i).length ≤ 16 := by
  unfold basisL
  split
  · rename_i h
    rw [List.length_set, List.length_replicate]
    rcases (show n = 1 ∨ n = 2 ∨ n = 3 ∨ n = 4 by omega) with rfl | rfl | rfl | rfl <;> decide
  · exact Nat.zero_le _
theorem amps_le16 : ∀ {M : List (List Dw)}, (∀ r ∈ M, r.length ≤ 16) → amps M ≤ M.length * 16
  | [], _ => by simp [amps]
  | r :: M, h => by
    have h1 := amps_le16 (M := M) fun s hs => h s (List.mem_cons_of_mem _ hs)
    have h2 := h r (List.mem_cons_self ..)
    unfold amps at *
    rw [List.map_cons, List.sum_cons, List.length_cons, Nat.succ_mul]
    omega
theorem idM_amps (n : Int) : (idM n).length ≤ 16 ∧ amps (idM n) ≤ 256 := by
  by_cases h : 1 ≤ n ∧ n ≤ 4
  · have hl := idM_len h
    have h16 : 2 ^ n.toNat ≤ 16 := by rcases (show n = 1 ∨ n = 2 ∨ n = 3 ∨ n = 4 by omega) with rfl | rfl | rfl | rfl <;> decide
    have h2 := amps_le16 (M := idM n) fun r hr => by
      rw [idM_yes h] at hr
      obtain ⟨i, _, rfl⟩ := List.mem_map.1 hr
      exact basisL_len n _
    exact ⟨by omega, by omega⟩
  · rw [idM_no h]; exact ⟨by decide, by decide⟩
attribute [local irreducible] World.cell?
end Go.Proofs.Ytfmgjhaofbdlpaa
namespace Go.Proofs.Ytfmgjhaofbdlpaa
theorem inv_all : allP.all (fun p => permB (invP p) && decide ((invP p).length = p.length) && decide (cmpP p (invP p) = upI p.length) && decide (cmpP (invP p) p = upI p.length) && decide (cmpP (upI p.length) p = p)) = true := by decide +kernel
theorem cmp_all : allP.all (fun p => allP.all fun q => !decide (p.length = q.length) || (permB (cmpP p q) && decide ((cmpP p q).length = p.length) && (List.range (2 ^ p.length)).all fun i => decide (pix q (pix p (i : Int)) = pix (cmpP p q) (i : Int)))) = true := by decide +kernel
theorem inv_facts {p : List Int} (h : permB p = true) : permB (invP p) = true ∧ (invP p).length = p.length ∧ cmpP p (invP p) = upI p.length ∧ cmpP (invP p) p = upI p.length ∧ cmpP (upI p.length) p = p := by
  have h1 := List.all_eq_true.1 inv_all p (perm_mem h)
  simpa [and_assoc] using h1
theorem cmp_facts {p q : List Int} (h : permB p = true) (k : permB q = true) (hl : p.length = q.length) : permB (cmpP p q) = true ∧ (cmpP p q).length = p.length ∧ ∀ i : Nat, i < 2 ^ p.length → pix q (pix p (i : Int)) = pix (cmpP p q) (i : Int) := by
  have h1 := List.all_eq_true.1 (List.all_eq_true.1 cmp_all p (perm_mem h)) q (perm_mem k)
  rw [decide_eq_true hl] at h1
  simp only [Bool.not_true, Bool.false_or, Bool.and_eq_true, decide_eq_true_eq, List.all_eq_true, List.mem_range] at h1
  exact ⟨h1.1.1, h1.1.2, h1.2⟩
theorem cmpP_nil {p q : List Int} (h : (cmpP p q).length ≠ 0) : permB p = true ∧ permB q = true ∧ p.length = q.length := by
  unfold cmpP at h
  split at h
  · rename_i h1; simpa [and_assoc] using h1
  · exact absurd rfl h
theorem cmpP_zero {p q : List Int} (h : (cmpP p q).length = 0) : cmpP p q = [] := List.eq_nil_of_length_eq_zero h
theorem perm_nil : permB [] = false := by decide
theorem pix_nil (i : Int) : pix [] i = 0 := by unfold pix pixB; rw [perm_nil]; rfl
theorem invP_len (p : List Int) : (invP p).length ≤ p.length := by
  unfold invP
  split
  · rw [invS_len]; exact Nat.le_refl _
  · exact Nat.zero_le _
theorem cmpP_len (p q : List Int) : (cmpP p q).length ≤ p.length := by
  unfold cmpP
  split
  · rw [List.length_map]; exact Nat.le_refl _
  · exact Nat.zero_le _
theorem pmM_amps (p : List Int) : (pmM p).length ≤ 16 ∧ amps (pmM p) ≤ 256 := by
  unfold pmM
  split
  · rename_i h
    have hl := (permB_iff.1 h).2
    have h16 : 2 ^ p.length ≤ 16 := by rcases (show p.length = 1 ∨ p.length = 2 ∨ p.length = 3 ∨ p.length = 4 by omega) with e | e | e | e <;> rw [e] <;> decide
    have hL : (pmL p).length = 2 ^ p.length := by rw [pmL, List.length_map, List.length_range]
    have hc : (colsM (pmL p)).length = 2 ^ p.length := by rw [colsM_len, hL]
    have hr := amps_rect (n := 2 ^ p.length) (M := colsM (pmL p)) fun r hr => by
      obtain ⟨k, -, rfl⟩ := List.mem_map.1 hr
      rw [col_len, hL]
    refine ⟨by omega, ?_⟩
    rw [hr, hc]
    exact Nat.mul_le_mul h16 h16
  · exact ⟨by decide, by decide⟩
end Go.Proofs.Ytfmgjhaofbdlpaa
