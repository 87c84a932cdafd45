/- XGxN: slices of slices of gates, as XMtN for fractions. -/
import Derived.Test.YtckfklpgnneodaaGxL
namespace Go.Proofs.Ytckfklpgnneodaa
open Go.RowKit
def marksMG : Nat → List (List Gt) → List (List Gt)
  | _, [] => []
  | k, r :: M => marksG k r.length :: marksMG (k + r.length * 4) M
theorem marksM_lenG : ∀ (k : Nat) (M : List (List Gt)), (marksMG k M).length = M.length
  | _, [] => rfl
  | k, r :: M => by rw [marksMG, List.length_cons, marksM_lenG, List.length_cons]
theorem amps_consG (r : List Gt) (M : List (List Gt)) : ampsG (r :: M) = r.length + ampsG M := by simp [ampsG]
theorem marksM_snocG : ∀ (k : Nat) (M : List (List Gt)) (r : List Gt), marksMG k (M ++ [r]) = marksMG k M ++ [marksG (k + ampsG M * 4) r.length]
  | k, [], r => by simp [marksMG, ampsG]
  | k, s :: M, r => by
    rw [List.cons_append, marksMG, marksM_snocG, marksMG, List.cons_append, amps_consG]
    congr 4
    omega
theorem marksM_atG {k : Nat} {M : List (List Gt)} {j : Nat} {r : List Gt} (hr : M[j]? = some r) : (marksMG k M)[j]? = some (marksG (k + ampsG (M.take j) * 4) r.length) := by
  have h : j < M.length := by
    rcases Nat.lt_or_ge j M.length with h' | h'
    · exact h'
    · rw [List.getElem?_eq_none h'] at hr; cases hr
  induction M generalizing k j with
  | nil => simp at h
  | cons s M ih =>
    cases j with
    | zero => simp at hr; subst hr; simp [marksMG, ampsG]
    | succ j =>
      rw [marksMG, List.getElem?_cons_succ, ih (by simpa using hr) (by simpa using h), List.take_succ_cons, amps_consG]
      congr 2
      omega
theorem markM_atG {k : Nat} {M : List (List Gt)} {j : Nat} {r : List Gt} (hr : M[j]? = some r) : (marksMG k (M.take j) ++ M.drop j)[j]? = some r := by
  have h : j < M.length := by
    rcases Nat.lt_or_ge j M.length with h' | h'
    · exact h'
    · rw [List.getElem?_eq_none h'] at hr; cases hr
  rw [List.getElem?_append_right (by rw [marksM_lenG, List.length_take]; omega), marksM_lenG, List.length_take, List.getElem?_drop]
  rw [show j + (j - min j M.length) = j by omega]
  exact hr
theorem markM_setG {k : Nat} {M : List (List Gt)} {j : Nat} {r : List Gt} (hr : M[j]? = some r) : (marksMG k (M.take j) ++ M.drop j).set j (marksG (k + ampsG (M.take j) * 4) r.length) = marksMG k (M.take (j + 1)) ++ M.drop (j + 1) := by
  have h : j < M.length := by
    rcases Nat.lt_or_ge j M.length with h' | h'
    · exact h'
    · rw [List.getElem?_eq_none h'] at hr; cases hr
  have e : M.drop j = r :: M.drop (j + 1) := by
    rw [List.getElem?_eq_getElem h] at hr
    injection hr with hr
    rw [← hr]
    exact (List.getElem_cons_drop ..).symm
  rw [List.set_append_right _ _ (by rw [marksM_lenG, List.length_take]; omega), marksM_lenG, List.length_take, show j - min j M.length = 0 by omega, e, List.set_cons_zero, List.take_add_one, hr]
  rw [show (some r).toList = [r] from rfl, marksM_snocG, List.append_assoc]
  rfl
attribute [local irreducible] World.cell?
set_option maxRecDepth 100000 in
set_option maxHeartbeats 1600000 in
theorem markMg (B C k : Nat) (v : Value) (M : List (List Gt)) (w : World) (hv : GSM w B C v M) (hn : M.length ≤ 1048576) (hm : ampsG M ≤ 1048576) (hk : k ≤ 536870912) :
    Calls Try.prog 28 #[v, .int .i64 k] w fun e w' => e = .returned (.int .i64 ((k + ampsG M * 4 : Nat) : Int)) ∧ GSM w' B C v (marksMG k M) ∧ Mid B C w w' := by
  obtain ⟨a, cap, rfl, hcap, hr⟩ := hv
  have Hr := Lib.hid hr
  clear hr
  go_enter Try.func28, Try.ntmps28
  go_wp2_with fail
  go_loopg [1, 5] M.length (fun n m i wr => ∃ j : Nat, n = M.length - j ∧ j ≤ M.length ∧ m = .int .i64 ((k + ampsG (M.take j) * 4 : Nat) : Int) ∧ i = .int .i64 j ∧ Hid (∀ g, a = some ⟨g, 0, none⟩ → B ≤ g → g < C → MRowG w B C g M → MRowG wr B C g (marksMG k (M.take j) ++ M.drop j)) ∧ Hid (Mid B C w wr))
  case atStart => exact ⟨0, rfl, Nat.zero_le _, by simp [ampsG], rfl, fun g _ _ _ h => by simpa [marksMG] using h, Mid.refl _ _ _⟩
  case round =>
    obtain ⟨j, rfl, hj, rfl, rfl, Hrow, Hm⟩ := hrel
    by_cases hlt : j < M.length
    · obtain ⟨g, rfl, hB, hC, hrow0⟩ := Hr.out (by omega)
      have hrow := Hrow.out g rfl hB hC hrow0
      obtain ⟨r, hr⟩ : ∃ r, M[j]? = some r := ⟨M[j], List.getElem?_eq_getElem hlt⟩
      obtain ⟨p, pc, b, c, c0, hb0, hbc, hc0, hd, hturn⟩ := hrow.turn (markM_atG hr)
      have hle := amps_leG (M := M) (j + 1)
      have hstep := amps_stepG hr
      have Hd := Lib.hid (fun W (h : gtE.Sc W b c (.slice p r.length pc) r) => markGs b c (k + ampsG (M.take j) * 4) (.slice p r.length pc) r W h (by omega) (by omega))
      have Hdc := Lib.hid hd
      have Hturn := Lib.hid hturn
      have Hset := Lib.hid (markM_setG (k := k) hr)
      clear hd hturn hrow Hrow hrow0 hr
      go_wp2_with fail
      refine (Hd.out _ Hdc.out).mono ?_
      rintro e w2 ⟨rfl, hds, hmid⟩
      have hr2 := Hturn.out _ _ (marksG_len _ _) hds hmid
      rw [Hset.out] at hr2
      have Hr2 := Lib.hid hr2
      have Hm2 := Lib.hid (Hm.out.trans (hmid.wide hb0 (by omega)))
      clear hr2 hmid hds Hd Hdc Hturn Hm
      go_wp2_with fail
      go_roundg (M.length - (j + 1))
      case measure => omega
      case rel => exact ⟨j + 1, rfl, by omega, by rw [hstep]; congr 2; omega, by go_num, fun g' hg _ _ _ => by cases hg; exact Hr2.out, Hm2⟩
    · obtain rfl : j = M.length := by omega
      go_wp2_with fail
      go_ret
      refine ⟨by rw [List.take_length]; rfl, ⟨_, _, by rw [marksM_lenG], by rw [marksM_lenG]; exact hcap, fun hl => ?_⟩, Hm.out⟩
      rw [marksM_lenG] at hl
      obtain ⟨g, e, hB, hC, hrow0⟩ := Hr.out hl
      exact ⟨g, e, hB, hC, by simpa using Hrow.out g e hB hC hrow0⟩
set_option maxRecDepth 100000 in
set_option maxHeartbeats 1600000 in
theorem heldMg (B C k : Nat) (v : Value) (M : List (List Gt)) (w : World) (hv : GSM w B C v (marksMG k M)) (hn : M.length ≤ 1048576) (hm : ampsG M ≤ 1048576) (hk : k ≤ 536870912) :
    Calls Try.prog 29 #[v, .int .i64 k] w fun e w' => e = .returned (.int .i64 ((k + ampsG M * 4 : Nat) : Int)) ∧ w = w' := by
  obtain ⟨a, cap, rfl, hcap, hr⟩ := hv
  rw [marksM_lenG] at hcap hr ⊢
  have Hr := Lib.hid hr
  clear hr
  go_enter Try.func29, Try.ntmps29
  go_wp2_with fail
  go_loopg [1, 5] M.length (fun n m i wr => ∃ j : Nat, n = M.length - j ∧ j ≤ M.length ∧ m = .int .i64 ((k + ampsG (M.take j) * 4 : Nat) : Int) ∧ i = .int .i64 j ∧ w = wr)
  case atStart => exact ⟨0, rfl, Nat.zero_le _, by simp [ampsG], rfl, rfl⟩
  case round =>
    obtain ⟨j, rfl, hj, rfl, rfl, rfl⟩ := hrel
    by_cases hlt : j < M.length
    · obtain ⟨g, rfl, hB, hC, hrow⟩ := Hr.out (by omega)
      obtain ⟨r, hr⟩ : ∃ r, M[j]? = some r := ⟨M[j], List.getElem?_eq_getElem hlt⟩
      obtain ⟨p, pc, c0, hd⟩ := hrow.cell (marksM_atG (k := k) hr)
      have hle := amps_leG (M := M) (j + 1)
      have hstep := amps_stepG hr
      have Hd := Lib.hid (heldGs B (k + ampsG (M.take j) * 4) r.length _ w hd.sl (by omega) (by omega))
      rw [marksG_len] at c0 Hd
      clear hd hrow
      go_wp2_with fail
      refine (Hd.out).mono ?_
      rintro e w2 ⟨rfl, rfl⟩
      go_wp2_with fail
      go_roundg (M.length - (j + 1))
      case measure => omega
      case rel => exact ⟨j + 1, rfl, by omega, by rw [hstep]; congr 2; omega, by go_num, rfl⟩
    · obtain rfl : j = M.length := by omega
      go_wp2_with fail
      go_ret
      exact ⟨by rw [List.take_length]; rfl, rfl⟩
end Go.Proofs.Ytckfklpgnneodaa
