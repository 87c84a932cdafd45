/- The laws' own helpers over matrices: mark, hold. -/
import Derived.Test.YtlmiebeffdcfhaaBaseB08
namespace Go.Proofs.Ytlmiebeffdcfhaa
open Go.RowKit
/-- The marks of a matrix that begin at k. -/
def marksM : Nat → List (List Dw) → List (List Dw)
  | _, [] => []
  | k, r :: M => marks k r.length :: marksM (k + r.length * 5) M
theorem marksM_len : ∀ (k : Nat) (M : List (List Dw)), (marksM k M).length = M.length
  | _, [] => rfl
  | k, r :: M => by rw [marksM, List.length_cons, marksM_len, List.length_cons]
theorem amps_cons (r : List Dw) (M : List (List Dw)) : amps (r :: M) = r.length + amps M := by simp [amps]
theorem marksM_snoc : ∀ (k : Nat) (M : List (List Dw)) (r : List Dw), marksM k (M ++ [r]) = marksM k M ++ [marks (k + amps M * 5) r.length]
  | k, [], r => by simp [marksM, amps]
  | k, s :: M, r => by
    rw [List.cons_append, marksM, marksM_snoc, marksM, List.cons_append, amps_cons]
    congr 4
    omega
theorem marksM_at {k : Nat} {M : List (List Dw)} {j : Nat} {r : List Dw} (hr : M[j]? = some r) : (marksM k M)[j]? = some (marks (k + amps (M.take j) * 5) r.length) := by
  have h : j < M.length := by
    rcases Nat.lt_or_ge j M.length with h' | h'
    · exact h'
    · rw [List.getElem?_eq_none h'] at hr; cases hr
  induction M generalizing k j with
  | nil => simp at h
  | cons s M ih =>
    cases j with
    | zero => simp at hr; subst hr; simp [marksM, amps]
    | succ j =>
      rw [marksM, List.getElem?_cons_succ, ih (by simpa using hr) (by simpa using h), List.take_succ_cons, amps_cons]
      congr 2
      omega
theorem markM_at {k : Nat} {M : List (List Dw)} {j : Nat} {r : List Dw} (hr : M[j]? = some r) : (marksM k (M.take j) ++ M.drop j)[j]? = some r := by
  have h : j < M.length := by
    rcases Nat.lt_or_ge j M.length with h' | h'
    · exact h'
    · rw [List.getElem?_eq_none h'] at hr; cases hr
  rw [List.getElem?_append_right (by rw [marksM_len, List.length_take]; omega), marksM_len, List.length_take, List.getElem?_drop]
  rw [show j + (j - min j M.length) = j by omega]
  exact hr
theorem markM_set {k : Nat} {M : List (List Dw)} {j : Nat} {r : List Dw} (hr : M[j]? = some r) : (marksM k (M.take j) ++ M.drop j).set j (marks (k + amps (M.take j) * 5) r.length) = marksM k (M.take (j + 1)) ++ M.drop (j + 1) := by
  have h : j < M.length := by
    rcases Nat.lt_or_ge j M.length with h' | h'
    · exact h'
    · rw [List.getElem?_eq_none h'] at hr; cases hr
  have e : M.drop j = r :: M.drop (j + 1) := by
    rw [List.getElem?_eq_getElem h] at hr
    injection hr with hr
    rw [← hr]
    exact (List.getElem_cons_drop ..).symm
  rw [List.set_append_right _ _ (by rw [marksM_len, List.length_take]; omega), marksM_len, List.length_take, show j - min j M.length = 0 by omega, e, List.set_cons_zero, List.take_add_one, hr]
  rw [show (some r).toList = [r] from rfl, marksM_snoc, List.append_assoc]
  rfl
theorem amps_mark (k : Nat) (M : List (List Dw)) : amps (marksM k M) = amps M := by
  induction M generalizing k with
  | nil => rfl
  | cons r M ih => rw [marksM, amps_cons, amps_cons, ih, marks_len]
attribute [local irreducible] World.cell?
set_option maxRecDepth 100000 in
set_option maxHeartbeats 1600000 in
theorem markMt (B C k : Nat) (v : Value) (M : List (List Dw)) (w : World) (hv : DSM w B C v M) (hn : M.length ≤ 1048576) (hm : amps M ≤ 1048576) (hk : k ≤ 536870912) :
    Calls Try.prog 21 #[v, .int .i64 k] w fun e w' => e = .returned (.int .i64 ((k + amps M * 5 : Nat) : Int)) ∧ DSM w' B C v (marksM k M) ∧ Mid B C w w' := by
  obtain ⟨a, cap, rfl, hcap, hr⟩ := hv
  have Hr := Lib.hid hr
  clear hr
  go_enter Try.func21, Try.ntmps21
  go_wp2_with fail
  go_loopg [1, 5] M.length (fun n m i wr => ∃ j : Nat, n = M.length - j ∧ j ≤ M.length ∧ m = .int .i64 ((k + amps (M.take j) * 5 : Nat) : Int) ∧ i = .int .i64 j ∧ Hid (∀ g, a = some ⟨g, 0, none⟩ → B ≤ g → g < C → MRow w B C g M → MRow wr B C g (marksM k (M.take j) ++ M.drop j)) ∧ Hid (Mid B C w wr))
  case atStart => exact ⟨0, rfl, Nat.zero_le _, by simp [amps], rfl, fun g _ _ _ h => by simpa [marksM] using h, Mid.refl _ _ _⟩
  case round =>
    obtain ⟨j, rfl, hj, rfl, rfl, Hrow, Hm⟩ := hrel
    by_cases hlt : j < M.length
    · obtain ⟨g, rfl, hB, hC, hrow0⟩ := Hr.out (by omega)
      have hrow := Hrow.out g rfl hB hC hrow0
      obtain ⟨r, hr⟩ : ∃ r, M[j]? = some r := ⟨M[j], List.getElem?_eq_getElem hlt⟩
      obtain ⟨p, pc, b, c, c0, hb0, hbc, hc0, hd, hturn⟩ := hrow.turn (markM_at hr)
      have hle := amps_le (M := M) (j + 1)
      have hstep := amps_step hr
      have Hd := Lib.hid (fun W (h : DSc W b c (.slice p r.length pc) r) => markDs b c (k + amps (M.take j) * 5) (.slice p r.length pc) r W h (by omega) (by omega))
      have Hdc := Lib.hid hd
      have Hturn := Lib.hid hturn
      have Hset := Lib.hid (markM_set (k := k) hr)
      clear hd hturn hrow Hrow hrow0 hr
      go_wp2_with fail
      refine (Hd.out _ Hdc.out).mono ?_
      rintro e w2 ⟨rfl, hds, hmid⟩
      have hr2 := Hturn.out _ _ (marks_len _ _) hds hmid
      rw [Hset.out] at hr2
      have Hr2 := Lib.hid hr2
      have Hm2 := Lib.hid (Hm.out.trans (hmid.wide hb0 (by omega)))
      clear hr2 hmid hds Hd Hdc Hturn Hm
      go_wp2_with fail
      go_roundg (M.length - (j + 1))
      case measure => omega
      case rel => exact ⟨j + 1, rfl, by omega, by rw [hstep]; congr 2; omega, by go_num, fun g' hg _ _ _ => by cases hg; exact Hr2.out, Hm2⟩
    · obtain rfl : j = M.length := by omega
      go_wp2_with fail
      go_ret
      refine ⟨by rw [List.take_length]; rfl, ⟨_, _, by rw [marksM_len], by rw [marksM_len]; exact hcap, fun hl => ?_⟩, Hm.out⟩
      rw [marksM_len] at hl
      obtain ⟨g, e, hB, hC, hrow0⟩ := Hr.out hl
      exact ⟨g, e, hB, hC, by simpa using Hrow.out g e hB hC hrow0⟩
set_option maxRecDepth 100000 in
set_option maxHeartbeats 1600000 in
theorem heldMt (B C k : Nat) (v : Value) (M : List (List Dw)) (w : World) (hv : DSM w B C v (marksM k M)) (hn : M.length ≤ 1048576) (hm : amps M ≤ 1048576) (hk : k ≤ 536870912) :
    Calls Try.prog 22 #[v, .int .i64 k] w fun e w' => e = .returned (.int .i64 ((k + amps M * 5 : Nat) : Int)) ∧ w = w' := by
  obtain ⟨a, cap, rfl, hcap, hr⟩ := hv
  rw [marksM_len] at hcap hr ⊢
  have Hr := Lib.hid hr
  clear hr
  go_enter Try.func22, Try.ntmps22
  go_wp2_with fail
  go_loopg [1, 5] M.length (fun n m i wr => ∃ j : Nat, n = M.length - j ∧ j ≤ M.length ∧ m = .int .i64 ((k + amps (M.take j) * 5 : Nat) : Int) ∧ i = .int .i64 j ∧ w = wr)
  case atStart => exact ⟨0, rfl, Nat.zero_le _, by simp [amps], rfl, rfl⟩
  case round =>
    obtain ⟨j, rfl, hj, rfl, rfl, rfl⟩ := hrel
    by_cases hlt : j < M.length
    · obtain ⟨g, rfl, hB, hC, hrow⟩ := Hr.out (by omega)
      obtain ⟨r, hr⟩ : ∃ r, M[j]? = some r := ⟨M[j], List.getElem?_eq_getElem hlt⟩
      obtain ⟨p, pc, c0, hd⟩ := hrow.cell (marksM_at (k := k) hr)
      have hle := amps_le (M := M) (j + 1)
      have hstep := amps_step hr
      have Hd := Lib.hid (heldDs B (k + amps (M.take j) * 5) r.length _ w hd.dsl (by omega) (by omega))
      rw [marks_len] at c0 Hd
      clear hd hrow
      go_wp2_with fail
      refine (Hd.out).mono ?_
      rintro e w2 ⟨rfl, rfl⟩
      go_wp2_with fail
      go_roundg (M.length - (j + 1))
      case measure => omega
      case rel => exact ⟨j + 1, rfl, by omega, by rw [hstep]; congr 2; omega, by go_num, rfl⟩
    · obtain rfl : j = M.length := by omega
      go_wp2_with fail
      go_ret
      exact ⟨by rw [List.take_length]; rfl, rfl⟩
end Go.Proofs.Ytlmiebeffdcfhaa
