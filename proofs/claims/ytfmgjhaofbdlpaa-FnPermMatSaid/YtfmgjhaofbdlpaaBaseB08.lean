/- BaseB08: several of our texts in one: MtL MtO MtN MtS. -/
import Derived.Test.YtfmgjhaofbdlpaaMtR
import Derived.Test.YtfmgjhaofbdlpaaBaseB07
import Derived.Test.YtfmgjhaofbdlpaaBaseB06
import Derived.Deep.Slices
namespace Go.Proofs.Ytfmgjhaofbdlpaa
open Go.RowKit
/-- A matrix of the laws' fractions that came in. -/
def MtIn (w : World) (B : Nat) (a0 : Option Addr) (M : List (List Dw)) : Prop :=
  M.length ≤ maxLen ∧ (0 < M.length → ∃ b off, a0 = some ⟨b, off, none⟩ ∧ b < B ∧ ∀ j r, M[j]? = some r → ∃ a cap, w.cell? ⟨b, off + j, none⟩ = some (.slice a r.length cap) ∧ DsIn w B a r)
theorem MtIn.below {w w' : World} {B : Nat} {a0 : Option Addr} {M : List (List Dw)} (h : MtIn w B a0 M) (hb : Below B w w') : MtIn w' B a0 M :=
  ⟨h.1, fun h0 => by
    obtain ⟨b, off, e, hlt, hc⟩ := h.2 h0
    refine ⟨b, off, e, hlt, fun j r hr => ?_⟩
    obtain ⟨a, cap, c0, hd⟩ := hc j r hr
    exact ⟨a, cap, (hb.cell (by exact hlt)).trans c0, hd.below hb⟩⟩
theorem MtIn.mono {w : World} {B C : Nat} {a0 : Option Addr} {M : List (List Dw)} (h : MtIn w B a0 M) (hC : B ≤ C) : MtIn w C a0 M :=
  ⟨h.1, fun h0 => by
    obtain ⟨b, off, e, hlt, hc⟩ := h.2 h0
    refine ⟨b, off, e, by omega, fun j r hr => ?_⟩
    obtain ⟨a, cap, c0, hd⟩ := hc j r hr
    exact ⟨a, cap, c0, hd.mono hC⟩⟩
/-- The exponents of a matrix are machine integers. -/
def EbM (M : List (List Dw)) : Prop := ∀ r ∈ M, Eb r
theorem MtIn.eb {w : World} {B : Nat} {a0 : Option Addr} {M : List (List Dw)} (h : MtIn w B a0 M) : EbM M := by
  intro r hr
  obtain ⟨j, hj⟩ := List.getElem?_of_mem hr
  have h0 : 0 < M.length := by
    rcases Nat.eq_zero_or_pos M.length with k | k
    · rw [List.eq_nil_of_length_eq_zero k] at hj; simp at hj
    · exact k
  obtain ⟨b, off, e, hlt, hc⟩ := h.2 h0
  obtain ⟨a, cap, _, hd⟩ := hc j r hj
  exact hd.eb
/-- The amplitudes of a matrix. -/
def amps (M : List (List Dw)) : Nat := (M.map List.length).sum
theorem amps_step {M : List (List Dw)} {j : Nat} {r : List Dw} (hr : M[j]? = some r) : amps (M.take (j + 1)) = amps (M.take j) + r.length := by
  unfold amps
  rw [List.take_add_one, hr]
  simp
theorem amps_le {M : List (List Dw)} (j : Nat) : amps (M.take j) ≤ amps M := by
  unfold amps
  conv => rhs; rw [← List.take_append_drop j M, List.map_append, List.sum_append]
  omega
theorem amps_row {M : List (List Dw)} {j : Nat} {r : List Dw} (hr : M[j]? = some r) : r.length ≤ amps M := by
  have h1 := amps_step hr
  have h2 := amps_le (M := M) (j + 1)
  omega
theorem infoDs : (Try.prog.info? 53).map (fun i => (i.zero, i.size, i.bytes)) = some (some (.slice none 0 0), 1, 24) := by kernel_rfl
theorem cellsDs : Try.prog.cellsOf 53 = 1 := by kernel_rfl
theorem made_slices (n : Nat) : (madeCells #[.slice none 0 0] (n * 1)).toList = List.replicate n (.slice none 0 0) := by
  induction n with
  | zero => simp [madeCells]
  | succ n ih =>
    rw [List.replicate_succ', ← ih, show (n + 1) * 1 = n * 1 + 1 by omega]
    simp only [madeCells, Array.toList_map, Array.toList_range, List.range_succ, List.map_append, List.map_cons, List.map_nil]
    congr 1
    simp [Nat.mod_one]
theorem rows_nil {w : World} {B C n : Nat} : RwS w B C (List.replicate n (.slice none 0 0)) (List.replicate n []) := by
  refine ⟨by simp, fun _ => 0, fun j v r hv hr => ?_, fun i j r s hr _ ls _ _ => ?_⟩
  · rw [List.getElem?_replicate] at hv hr
    split at hv
    · split at hr
      · injection hv with hv; injection hr with hr; subst hv hr
        exact ⟨none, 0, rfl, Nat.le_refl _, fun h => absurd h (by simp)⟩
      · omega
    · cases hv
  · rw [List.getElem?_replicate] at hr
    split at hr
    · injection hr with hr; subst hr; simp at ls
    · cases hr
theorem halfM_at {M : List (List Dw)} {j : Nat} (h : j < M.length) : (M.take j ++ List.replicate (M.length - j) ([] : List Dw))[j]? = some [] := by
  rw [List.getElem?_append_right (by simp; omega), List.getElem?_replicate, if_pos (by simp; omega)]
theorem halfM_set {M : List (List Dw)} {j : Nat} {r : List Dw} (hr : M[j]? = some r) : (M.take j ++ List.replicate (M.length - j) []).set j r = M.take (j + 1) ++ List.replicate (M.length - (j + 1)) [] := by
  have h : j < M.length := by
    rcases Nat.lt_or_ge j M.length with h' | h'
    · exact h'
    · rw [List.getElem?_eq_none h'] at hr; cases hr
  rw [List.set_append_right _ _ (by simp; omega), List.take_add_one, hr]
  rw [show M.length - j = (M.length - (j + 1)) + 1 by omega, List.replicate_succ, show j - (M.take j).length = 0 by simp; omega]
  simp
attribute [local irreducible] World.cell?
set_option maxRecDepth 100000 in
set_option maxHeartbeats 1600000 in
theorem eqMt (B C D E : Nat) (v u : Value) (M : List (List Dw)) (w : World) (hv : DSM w B C v M) (hu : DSM w D E u M) (hm : M.length ≤ 1048576) (hm2 : amps M ≤ 1048576) :
    Calls Try.prog 36 #[v, u] w fun e w' => e = .returned (.bool true) ∧ Below w.heap.size w w' := by
  obtain ⟨a, cap, rfl, hcap, hr⟩ := hv
  obtain ⟨a', cap', rfl, hcap', hr'⟩ := hu
  have Hr := Lib.hid hr
  have Hr' := Lib.hid hr'
  clear hr hr'
  go_enter Try.func36, Try.ntmps36
  go_wp2_with fail
  go_loopw [5] (fun i wr => ∃ j : Nat, j ≤ M.length ∧ i = .int .i64 j ∧ Hid (Below w.heap.size w wr)) (fun i _ => M.length - (intOf i).toNat)
  case atStart => exact ⟨0, Nat.zero_le _, rfl, Below.refl _ _⟩
  case round =>
    obtain ⟨j, hj, rfl, Hb⟩ := hrel
    by_cases hlt : j < M.length
    · obtain ⟨g, rfl, _, _, hrow⟩ := Hr.out (by omega)
      obtain ⟨g', rfl, _, _, hrow'⟩ := Hr'.out (by omega)
      obtain ⟨r, hr⟩ : ∃ r, M[j]? = some r := ⟨M[j], List.getElem?_eq_getElem hlt⟩
      have r1 := hrow.block (Hb.out.block _ hrow.lt) fun k _ _ hk => Hb.out.block k hk
      have r2 := hrow'.block (Hb.out.block _ hrow'.lt) fun k _ _ hk => Hb.out.block k hk
      obtain ⟨p, pc, c0, hd1⟩ := r1.cell hr
      obtain ⟨q, qc, c1, hd2⟩ := r2.cell hr
      have He := Lib.hid (fun W (h1 : Hid (DSl W B (.slice p r.length pc) r)) (h2 : Hid (DSl W D (.slice q r.length qc) r)) => eqDs B D (.slice p r.length pc) (.slice q r.length qc) r W h1.out h2.out (by have := amps_row hr; omega))
      have hS : SP2 w g g' j B D (.slice p r.length pc) (.slice q r.length qc) r r wr := ⟨c0, c1, r1.lt, r2.lt, Lib.hid hd1.dsl, Lib.hid hd2.dsl, Hb.out⟩
      clear hd1 hd2 r1 r2 hrow hrow'
      go_upto_region 6 with fail
      go_region_held3 (fun w' => w'.cell? ⟨g, j, none⟩ = some (.slice p r.length pc) ∧ w'.cell? ⟨g', j, none⟩ = some (.slice q r.length qc) ∧ g < w'.heap.size ∧ g' < w'.heap.size ∧ Hid (DSl w' B (.slice p r.length pc) r) ∧ Hid (DSl w' D (.slice q r.length qc) r) ∧ Below w.heap.size w w') (first | (show SP2 w g g' j B D (.slice p r.length pc) (.slice q r.length qc) r r _; (with_reducible exact hS.drew)) | (show SP2 w g g' j B D (.slice p r.length pc) (.slice q r.length qc) r r _; (with_reducible refine SP2.below ?_ hbR); first | assumption | exact ⟨by assumption, by assumption, by assumption, by assumption, by assumption, by assumption, by assumption⟩))
        (first | (go_at_call 60; (with_reducible refine (He.out _ hS.drew.one hS.drew.two).mono ?_); rintro e wR ⟨rfl, hbR⟩))
      have Hb2 := Lib.hid (below_up Hb.out.drew hbR Hb.out.size)
      go_wp2_with fail
      go_roundw
      case rel => exact ⟨j + 1, by omega, by go_num, Hb2⟩
      case measure => simp [intOf]; omega
    · obtain rfl : j = M.length := by omega
      go_wp2_with fail
      go_ret
      exact ⟨rfl, Hb.out⟩
end Go.Proofs.Ytfmgjhaofbdlpaa
namespace Go.Proofs.Ytfmgjhaofbdlpaa
open Go.ChangeShapes Go.WideShapes Go.ChangeAt Go.RowKit Go.Lib Go.Joins
end Go.Proofs.Ytfmgjhaofbdlpaa
namespace Go.Proofs.Ytfmgjhaofbdlpaa
open Go.RowKit
/-- The marks of a matrix that begin at k. -/
def marksM : Nat → List (List Dw) → List (List Dw)
  | _, [] => []
  | k, r :: M => marks k r.length :: marksM (k + r.length * 5) M
theorem marksM_len : ∀ (k : Nat) (M : List (List Dw)), (marksM k M).length = M.length
  | _, [] => rfl
  | k, r :: M => by rw [marksM, List.length_cons, marksM_len, List.length_cons]
theorem amps_cons (r : List Dw) (M : List (List Dw)) : amps (r :: M) = r.length + amps M := by simp [amps]
theorem marksM_snoc : ∀ (k : Nat) (M : List (List Dw)) (r : List Dw), marksM k (M ++ [r]) = marksM k M ++ [marks (k + amps M * 5) r.length]
  | k, [], r => by simp [marksM, amps]
  | k, s :: M, r => by
    rw [List.cons_append, marksM, marksM_snoc, marksM, List.cons_append, amps_cons]
    congr 4
    omega
theorem marksM_at {k : Nat} {M : List (List Dw)} {j : Nat} {r : List Dw} (hr : M[j]? = some r) : (marksM k M)[j]? = some (marks (k + amps (M.take j) * 5) r.length) := by
  have h : j < M.length := by
    rcases Nat.lt_or_ge j M.length with h' | h'
    · exact h'
    · rw [List.getElem?_eq_none h'] at hr; cases hr
  induction M generalizing k j with
  | nil => simp at h
  | cons s M ih =>
    cases j with
    | zero => simp at hr; subst hr; simp [marksM, amps]
    | succ j =>
      rw [marksM, List.getElem?_cons_succ, ih (by simpa using hr) (by simpa using h), List.take_succ_cons, amps_cons]
      congr 2
      omega
theorem markM_at {k : Nat} {M : List (List Dw)} {j : Nat} {r : List Dw} (hr : M[j]? = some r) : (marksM k (M.take j) ++ M.drop j)[j]? = some r := by
  have h : j < M.length := by
    rcases Nat.lt_or_ge j M.length with h' | h'
    · exact h'
    · rw [List.getElem?_eq_none h'] at hr; cases hr
  rw [List.getElem?_append_right (by rw [marksM_len, List.length_take]; omega), marksM_len, List.length_take, List.getElem?_drop]
  rw [show j + (j - min j M.length) = j by omega]
  exact hr
theorem markM_set {k : Nat} {M : List (List Dw)} {j : Nat} {r : List Dw} (hr : M[j]? = some r) : (marksM k (M.take j) ++ M.drop j).set j (marks (k + amps (M.take j) * 5) r.length) = marksM k (M.take (j + 1)) ++ M.drop (j + 1) := by
  have h : j < M.length := by
    rcases Nat.lt_or_ge j M.length with h' | h'
    · exact h'
    · rw [List.getElem?_eq_none h'] at hr; cases hr
  have e : M.drop j = r :: M.drop (j + 1) := by
    rw [List.getElem?_eq_getElem h] at hr
    injection hr with hr
    rw [← hr]
    exact (List.getElem_cons_drop ..).symm
  rw [List.set_append_right _ _ (by rw [marksM_len, List.length_take]; omega), marksM_len, List.length_take, show j - min j M.length = 0 by omega, e, List.set_cons_zero, List.take_add_one, hr]
  rw [show (some r).toList = [r] from rfl, marksM_snoc, List.append_assoc]
  rfl
theorem amps_mark (k : Nat) (M : List (List Dw)) : amps (marksM k M) = amps M := by
  induction M generalizing k with
  | nil => rfl
  | cons r M ih => rw [marksM, amps_cons, amps_cons, ih, marks_len]
attribute [local irreducible] World.cell?
set_option maxRecDepth 100000 in
set_option maxHeartbeats 1600000 in
theorem markMt (B C k : Nat) (v : Value) (M : List (List Dw)) (w : World) (hv : DSM w B C v M) (hn : M.length ≤ 1048576) (hm : amps M ≤ 1048576) (hk : k ≤ 536870912) :
    Calls Try.prog 37 #[v, .int .i64 k] w fun e w' => e = .returned (.int .i64 ((k + amps M * 5 : Nat) : Int)) ∧ DSM w' B C v (marksM k M) ∧ Mid B C w w' := by
  obtain ⟨a, cap, rfl, hcap, hr⟩ := hv
  have Hr := Lib.hid hr
  clear hr
  go_enter Try.func37, Try.ntmps37
  go_wp2_with fail
  go_loopg [1, 5] M.length (fun n m i wr => ∃ j : Nat, n = M.length - j ∧ j ≤ M.length ∧ m = .int .i64 ((k + amps (M.take j) * 5 : Nat) : Int) ∧ i = .int .i64 j ∧ Hid (∀ g, a = some ⟨g, 0, none⟩ → B ≤ g → g < C → MRow w B C g M → MRow wr B C g (marksM k (M.take j) ++ M.drop j)) ∧ Hid (Mid B C w wr))
  case atStart => exact ⟨0, rfl, Nat.zero_le _, by simp [amps], rfl, fun g _ _ _ h => by simpa [marksM] using h, Mid.refl _ _ _⟩
  case round =>
    obtain ⟨j, rfl, hj, rfl, rfl, Hrow, Hm⟩ := hrel
    by_cases hlt : j < M.length
    · obtain ⟨g, rfl, hB, hC, hrow0⟩ := Hr.out (by omega)
      have hrow := Hrow.out g rfl hB hC hrow0
      obtain ⟨r, hr⟩ : ∃ r, M[j]? = some r := ⟨M[j], List.getElem?_eq_getElem hlt⟩
      obtain ⟨p, pc, b, c, c0, hb0, hbc, hc0, hd, hturn⟩ := hrow.turn (markM_at hr)
      have hle := amps_le (M := M) (j + 1)
      have hstep := amps_step hr
      have Hd := Lib.hid (fun W (h : DSc W b c (.slice p r.length pc) r) => markDs b c (k + amps (M.take j) * 5) (.slice p r.length pc) r W h (by omega) (by omega))
      have Hdc := Lib.hid hd
      have Hturn := Lib.hid hturn
      have Hset := Lib.hid (markM_set (k := k) hr)
      clear hd hturn hrow Hrow hrow0 hr
      go_wp2_with fail
      refine (Hd.out _ Hdc.out).mono ?_
      rintro e w2 ⟨rfl, hds, hmid⟩
      have hr2 := Hturn.out _ _ (marks_len _ _) hds hmid
      rw [Hset.out] at hr2
      have Hr2 := Lib.hid hr2
      have Hm2 := Lib.hid (Hm.out.trans (hmid.wide hb0 (by omega)))
      clear hr2 hmid hds Hd Hdc Hturn Hm
      go_wp2_with fail
      go_roundg (M.length - (j + 1))
      case measure => omega
      case rel => exact ⟨j + 1, rfl, by omega, by rw [hstep]; congr 2; omega, by go_num, fun g' hg _ _ _ => by cases hg; exact Hr2.out, Hm2⟩
    · obtain rfl : j = M.length := by omega
      go_wp2_with fail
      go_ret
      refine ⟨by rw [List.take_length]; rfl, ⟨_, _, by rw [marksM_len], by rw [marksM_len]; exact hcap, fun hl => ?_⟩, Hm.out⟩
      rw [marksM_len] at hl
      obtain ⟨g, e, hB, hC, hrow0⟩ := Hr.out hl
      exact ⟨g, e, hB, hC, by simpa using Hrow.out g e hB hC hrow0⟩
set_option maxRecDepth 100000 in
set_option maxHeartbeats 1600000 in
theorem heldMt (B C k : Nat) (v : Value) (M : List (List Dw)) (w : World) (hv : DSM w B C v (marksM k M)) (hn : M.length ≤ 1048576) (hm : amps M ≤ 1048576) (hk : k ≤ 536870912) :
    Calls Try.prog 38 #[v, .int .i64 k] w fun e w' => e = .returned (.int .i64 ((k + amps M * 5 : Nat) : Int)) ∧ w = w' := by
  obtain ⟨a, cap, rfl, hcap, hr⟩ := hv
  rw [marksM_len] at hcap hr ⊢
  have Hr := Lib.hid hr
  clear hr
  go_enter Try.func38, Try.ntmps38
  go_wp2_with fail
  go_loopg [1, 5] M.length (fun n m i wr => ∃ j : Nat, n = M.length - j ∧ j ≤ M.length ∧ m = .int .i64 ((k + amps (M.take j) * 5 : Nat) : Int) ∧ i = .int .i64 j ∧ w = wr)
  case atStart => exact ⟨0, rfl, Nat.zero_le _, by simp [amps], rfl, rfl⟩
  case round =>
    obtain ⟨j, rfl, hj, rfl, rfl, rfl⟩ := hrel
    by_cases hlt : j < M.length
    · obtain ⟨g, rfl, hB, hC, hrow⟩ := Hr.out (by omega)
      obtain ⟨r, hr⟩ : ∃ r, M[j]? = some r := ⟨M[j], List.getElem?_eq_getElem hlt⟩
      obtain ⟨p, pc, c0, hd⟩ := hrow.cell (marksM_at (k := k) hr)
      have hle := amps_le (M := M) (j + 1)
      have hstep := amps_step hr
      have Hd := Lib.hid (heldDs B (k + amps (M.take j) * 5) r.length _ w hd.dsl (by omega) (by omega))
      rw [marks_len] at c0 Hd
      clear hd hrow
      go_wp2_with fail
      refine (Hd.out).mono ?_
      rintro e w2 ⟨rfl, rfl⟩
      go_wp2_with fail
      go_roundg (M.length - (j + 1))
      case measure => omega
      case rel => exact ⟨j + 1, rfl, by omega, by rw [hstep]; congr 2; omega, by go_num, rfl⟩
    · obtain rfl : j = M.length := by omega
      go_wp2_with fail
      go_ret
      exact ⟨by rw [List.take_length]; rfl, rfl⟩
end Go.Proofs.Ytfmgjhaofbdlpaa
namespace Go.Proofs.Ytfmgjhaofbdlpaa
open Go.RowKit
theorem markM1 (B C : Nat) (v : Value) (M : List (List Dw)) (w : World) (hv : DSM w B C v M) (hn : M.length ≤ 1048576) (hm : amps M ≤ 1048576) :
    Calls Try.prog 37 #[v, .int .i64 1] w fun e w' => e = .returned (.int .i64 (1 + (amps M : Int) * 5)) ∧ DSM w' B C v (marksM 1 M) ∧ Mid B C w w' := by
  refine (markMt B C 1 v M w hv hn hm (by omega)).mono ?_
  rintro e w1 ⟨rfl, h⟩
  exact ⟨by simp, h⟩
theorem markM2 (B C m : Nat) (v : Value) (M : List (List Dw)) (w : World) (hv : DSM w B C v M) (hn : M.length ≤ 1048576) (hm : amps M ≤ 1048576) (hm' : m ≤ 1048576) :
    Calls Try.prog 37 #[v, .int .i64 (1 + (m : Int) * 5)] w fun e w' => e = .returned (.int .i64 (1 + (m : Int) * 5 + (amps M : Int) * 5)) ∧ DSM w' B C v (marksM (1 + m * 5) M) ∧ Mid B C w w' := by
  have h := markMt B C (1 + m * 5) v M w hv hn hm (by omega)
  rw [show ((1 + m * 5 : Nat) : Int) = 1 + (m : Int) * 5 by simp] at h
  refine h.mono ?_
  rintro e w1 ⟨rfl, h⟩
  exact ⟨by simp, h⟩
theorem heldM1 (B C : Nat) (v : Value) (M : List (List Dw)) (w : World) (hv : DSM w B C v (marksM 1 M)) (hn : M.length ≤ 1048576) (hm : amps M ≤ 1048576) :
    Calls Try.prog 38 #[v, .int .i64 1] w fun e w' => e = .returned (.int .i64 (1 + (amps M : Int) * 5)) ∧ w = w' := by
  refine (heldMt B C 1 v M w hv hn hm (by omega)).mono ?_
  rintro e w1 ⟨rfl, h⟩
  exact ⟨by simp, h⟩
theorem Mid.low {B C : Nat} {w w' : World} (h : Mid B C w w') : w.heap.size ≤ w'.heap.size := h.1.size
end Go.Proofs.Ytfmgjhaofbdlpaa
