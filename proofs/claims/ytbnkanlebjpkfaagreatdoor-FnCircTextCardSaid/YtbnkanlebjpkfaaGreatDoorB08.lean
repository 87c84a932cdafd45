/- B08: several of our texts in one: GtS GtP GtKa SnG SnH PmS PmT. -/
import Derived.Test.YtbnkanlebjpkfaaGreatDoorGtB
import Derived.Test.YtbnkanlebjpkfaaGreatDoorB16
import Derived.Test.YtbnkanlebjpkfaaGreatDoorB09
import Derived.Test.YtbnkanlebjpkfaaGreatDoorB15
namespace Go.Proofs.YtbnkanlebjpkfaaGreatDoor
open Go.RowKit
/-- InverseGate, of kinds and of gates. -/
def invK (k : Int) : Int := if k = 5 then 6 else if k = 6 then 5 else if k = 7 then 8 else if k = 8 then 7 else k
attribute [local irreducible] World.cell?
/-- GateName. -/
def nmL : List ByteArray := [⟨#[]⟩, ⟨#[120]⟩, ⟨#[121]⟩, ⟨#[122]⟩, ⟨#[104]⟩, ⟨#[115]⟩, ⟨#[115, 100]⟩, ⟨#[116]⟩, ⟨#[116, 100]⟩, ⟨#[99, 120]⟩, ⟨#[99, 122]⟩, ⟨#[115, 119, 97, 112]⟩, ⟨#[99, 99, 120]⟩]
def nmB (k : Int) : ByteArray := if 1 ≤ k ∧ k ≤ 12 then nmL.getD k.toNat ⟨#[]⟩ else ⟨#[]⟩
set_option maxRecDepth 100000 in
set_option maxHeartbeats 1600000 in
theorem sname (k : Int) (w : World) :
    Calls Tryz.prog 56 #[.int .i64 k] w fun e w' => e = .returned (.string (nmB k)) ∧ Below w.heap.size w w' := by
  by_cases h : 1 ≤ k ∧ k ≤ 12
  · obtain ⟨m, rfl⟩ : ∃ m : Nat, k = m := ⟨k.toNat, by omega⟩
    have H1 := Lib.hid (fun w => lin_any (m : Int) 1 12 true w (decide_eq_true h))
    have hm : m ≤ 12 := by omega
    have hc : (w.alloc (.cells #[.string ⟨#[]⟩, .string ⟨#[120]⟩, .string ⟨#[121]⟩, .string ⟨#[122]⟩, .string ⟨#[104]⟩, .string ⟨#[115]⟩, .string ⟨#[115, 100]⟩, .string ⟨#[116]⟩, .string ⟨#[116, 100]⟩, .string ⟨#[99, 120]⟩, .string ⟨#[99, 122]⟩, .string ⟨#[115, 119, 97, 112]⟩, .string ⟨#[99, 99, 120]⟩] 9)).cell? ⟨w.heap.size, m, none⟩ = some (.string (nmB (m : Int))) := by
      have hb := heap_alloc_new w (.cells #[.string ⟨#[]⟩, .string ⟨#[120]⟩, .string ⟨#[121]⟩, .string ⟨#[122]⟩, .string ⟨#[104]⟩, .string ⟨#[115]⟩, .string ⟨#[115, 100]⟩, .string ⟨#[116]⟩, .string ⟨#[116, 100]⟩, .string ⟨#[99, 120]⟩, .string ⟨#[99, 122]⟩, .string ⟨#[115, 119, 97, 112]⟩, .string ⟨#[99, 99, 120]⟩] 9)
      refine cell_at hb m _ ?_
      have hm1 : 1 ≤ m := by omega
      rcases (show m = 1 ∨ m = 2 ∨ m = 3 ∨ m = 4 ∨ m = 5 ∨ m = 6 ∨ m = 7 ∨ m = 8 ∨ m = 9 ∨ m = 10 ∨ m = 11 ∨ m = 12 by omega) with rfl | rfl | rfl | rfl | rfl | rfl | rfl | rfl | rfl | rfl | rfl | rfl <;> rfl
    generalize nmB (m : Int) = s at *
    clear h
    go_enter Tryz.func56, Tryz.ntmps56
    go_wp2_with fail
    refine (H1.out _).mono ?_
    rintro e w1 ⟨rfl, rfl⟩
    go_wp2_with fail
    go_ret
    exact ⟨rfl, by go_grown⟩
  · have H1 := Lib.hid (fun w => lin_any k 1 12 false w (decide_eq_false h))
    rw [show nmB k = ⟨#[]⟩ from if_neg h]
    clear h
    go_enter Tryz.func56, Tryz.ntmps56
    go_wp2_with fail
    refine (H1.out _).mono ?_
    rintro e w1 ⟨rfl, rfl⟩
    go_wp2_with fail
    go_ret
    exact ⟨rfl, Below.refl _ _⟩
end Go.Proofs.YtbnkanlebjpkfaaGreatDoor
namespace Go.Proofs.YtbnkanlebjpkfaaGreatDoor
open Go.RowKit
/-- areDistinctQubits. -/
def dqOk (l : List Int) (n : Int) (j : Nat) : Bool := decide (0 ≤ l.getD j 0 ∧ l.getD j 0 < n) && !decide (l.getD j 0 ∈ l.take j)
def dq (l : List Int) (n : Int) : Bool := (List.range l.length).all (dqOk l n)
theorem wrapN {n : Int} (h : 1 ≤ n ∧ n ≤ 4) : IntKind.i64.wrap (n - 1) = n - 1 := by
  rcases (show n = 1 ∨ n = 2 ∨ n = 3 ∨ n = 4 by omega) with rfl | rfl | rfl | rfl <;> decide +kernel
theorem range3 : List.range 3 = [0, 1, 2] := by decide
theorem range2 : List.range 2 = [0, 1] := by decide
theorem range1 : List.range 1 = [0] := by decide
theorem upTo (x n : Int) : decide (0 ≤ x ∧ x ≤ n - 1) = decide (0 ≤ x ∧ x < n) := decide_eq_decide.2 (by omega)
theorem gtB_no {g : Gt} {n : Int} (h : ¬ (1 ≤ n ∧ n ≤ 4)) : gtB g n = false := by unfold gtB; rw [decide_eq_false h]; simp
theorem gtB_zero {g : Gt} {n : Int} (h : ar g.k = 0) : gtB g n = false := by unfold gtB; rw [h]; simp
theorem gtB_1 {k a b c n : Int} (h : ar k = 1) (hn : 1 ≤ n ∧ n ≤ 4) : gtB ⟨k, a, b, c⟩ n = (decide (b = 0) && decide (c = 0) && dq [a] n) := by
  unfold gtB gtOk dq dqOk gqs
  simp only [h, wrapN hn, range3, List.length_cons, List.length_nil, Nat.zero_add, range1, List.all_cons, List.all_nil, decide_eq_true hn, upTo]
  simp [Bool.and_comm, Bool.and_left_comm]
theorem gtB_2 {k a b c n : Int} (h : ar k = 2) (hn : 1 ≤ n ∧ n ≤ 4) : gtB ⟨k, a, b, c⟩ n = (decide (c = 0) && dq [a, b] n) := by
  unfold gtB gtOk dq dqOk gqs
  simp only [h, wrapN hn, range3, List.length_cons, List.length_nil, Nat.zero_add, Nat.reduceAdd, range2, List.all_cons, List.all_nil, decide_eq_true hn, upTo]
  simp [Bool.and_comm, Bool.and_left_comm]
theorem gtB_3 {k a b c n : Int} (h : ar k = 3) (hn : 1 ≤ n ∧ n ≤ 4) : gtB ⟨k, a, b, c⟩ n = dq [a, b, c] n := by
  unfold gtB gtOk dq dqOk gqs
  simp only [h, wrapN hn, range3, List.length_cons, List.length_nil, Nat.zero_add, Nat.reduceAdd, List.all_cons, List.all_nil, decide_eq_true hn, upTo]
  simp
theorem gtB_parts {g : Gt} {n : Int} (h : gtB g n = true) : (1 ≤ n ∧ n ≤ 4) ∧ (1 ≤ g.k ∧ g.k ≤ 12) ∧ (0 ≤ g.a ∧ g.a < n) ∧ (0 ≤ g.b ∧ g.b < n) ∧ 0 ≤ g.c ∧ g.c < n := by
  unfold gtB at h
  simp only [Bool.and_eq_true, decide_eq_true_eq] at h
  obtain ⟨hall, hpos, hn⟩ := h
  have hw : IntKind.i64.wrap (n - 1) = n - 1 := by rw [IntKind.wrap_i64]; omega
  rw [hw, List.all_eq_true] at hall
  have hk : 1 ≤ g.k ∧ g.k ≤ 12 := by
    unfold ar at hpos
    repeat' split at hpos
    all_goals omega
  have key : ∀ j, j < 3 → 0 ≤ [g.a, g.b, g.c].getD j 0 ∧ [g.a, g.b, g.c].getD j 0 < n := fun j hj => by
    have h := hall j (List.mem_range.2 hj)
    unfold gtOk at h
    split at h
    · have := of_decide_eq_true h; omega
    · rw [Bool.and_eq_true] at h
      have := of_decide_eq_true h.1
      omega
  exact ⟨hn, hk, key 0 (by omega), key 1 (by omega), key 2 (by omega)⟩
end Go.Proofs.YtbnkanlebjpkfaaGreatDoor
namespace Go.Proofs.YtbnkanlebjpkfaaGreatDoor
open Go.RowKit
/-- What gateKindOf answers. -/
def kV (k : Int) : Value :=
  if 1 ≤ k ∧ k ≤ 8 then .iface 97 (.agg #[.int .i64 (invK k), .bool (decide (k ≤ 6))])
  else if 9 ≤ k ∧ k ≤ 11 then .iface 99 (.agg #[])
  else if k = 12 then .iface 100 (.agg #[]) else .nilIface
theorem mkK1 (x : Value) (w : World) : (Instr.makeInterface 97 x).run Tryz.prog w = .ok (.iface 97 x) w := run_makeInterface w 97 x (by kernel_rfl)
theorem mkK2 (x : Value) (w : World) : (Instr.makeInterface 99 x).run Tryz.prog w = .ok (.iface 99 x) w := run_makeInterface w 99 x (by kernel_rfl)
theorem mkK3 (x : Value) (w : World) : (Instr.makeInterface 100 x).run Tryz.prog w = .ok (.iface 100 x) w := run_makeInterface w 100 x (by kernel_rfl)
theorem as11 (v : Value) (w : World) : (Instr.typeAssert (.iface 97 v) 94 97 true).run Tryz.prog w = .ok (.tuple #[v, .bool true]) w := by kernel_rfl
theorem as21 (v : Value) (w : World) : (Instr.typeAssert (.iface 99 v) 94 97 true).run Tryz.prog w = .ok (.tuple #[.agg #[.int .i64 0, .bool false], .bool false]) w := by kernel_rfl
theorem as31 (v : Value) (w : World) : (Instr.typeAssert (.iface 100 v) 94 97 true).run Tryz.prog w = .ok (.tuple #[.agg #[.int .i64 0, .bool false], .bool false]) w := by kernel_rfl
theorem as01 (w : World) : (Instr.typeAssert .nilIface 94 97 true).run Tryz.prog w = .ok (.tuple #[.agg #[.int .i64 0, .bool false], .bool false]) w := by kernel_rfl
theorem as22 (v : Value) (w : World) : (Instr.typeAssert (.iface 99 v) 94 99 true).run Tryz.prog w = .ok (.tuple #[v, .bool true]) w := by kernel_rfl
theorem as32 (v : Value) (w : World) : (Instr.typeAssert (.iface 100 v) 94 99 true).run Tryz.prog w = .ok (.tuple #[.agg #[], .bool false]) w := by kernel_rfl
theorem as02 (w : World) : (Instr.typeAssert .nilIface 94 99 true).run Tryz.prog w = .ok (.tuple #[.agg #[], .bool false]) w := by kernel_rfl
theorem as33 (v : Value) (w : World) : (Instr.typeAssert (.iface 100 v) 94 100 true).run Tryz.prog w = .ok (.tuple #[v, .bool true]) w := by kernel_rfl
theorem as03 (w : World) : (Instr.typeAssert .nilIface 94 100 true).run Tryz.prog w = .ok (.tuple #[.agg #[], .bool false]) w := by kernel_rfl
attribute [local irreducible] World.cell?
set_option maxRecDepth 100000 in
set_option maxHeartbeats 3200000 in
theorem ikind (k : Int) (w : World) :
    Calls Tryz.prog 71 #[.int .i64 k] w fun e w' => e = .returned (kV k) ∧ w = w' := by
  have m1 := mkK1
  have m2 := mkK2
  have m3 := mkK3
  by_cases h : 1 ≤ k ∧ k ≤ 12
  · rcases (show k = 1 ∨ k = 2 ∨ k = 3 ∨ k = 4 ∨ k = 5 ∨ k = 6 ∨ k = 7 ∨ k = 8 ∨ k = 9 ∨ k = 10 ∨ k = 11 ∨ k = 12 by omega) with rfl | rfl | rfl | rfl | rfl | rfl | rfl | rfl | rfl | rfl | rfl | rfl
    all_goals clear h
    all_goals go_enter Tryz.func71, Tryz.ntmps71
    all_goals go_wp2_with fail
    all_goals go_ret
    all_goals exact ⟨rfl, rfl⟩
  · have e : kV k = .nilIface := by unfold kV; rw [if_neg (by omega), if_neg (by omega), if_neg (by omega)]
    rw [e]
    have e1 : (k == 1) = false := by simp; omega
    have e2 : (k == 2) = false := by simp; omega
    have e3 : (k == 3) = false := by simp; omega
    have e4 : (k == 4) = false := by simp; omega
    have e5 : (k == 5) = false := by simp; omega
    have e6 : (k == 6) = false := by simp; omega
    have e7 : (k == 7) = false := by simp; omega
    have e8 : (k == 8) = false := by simp; omega
    have e9 : (k == 9) = false := by simp; omega
    have e10 : (k == 10) = false := by simp; omega
    have e11 : (k == 11) = false := by simp; omega
    have e12 : (k == 12) = false := by simp; omega
    clear h e
    go_enter Tryz.func71, Tryz.ntmps71
    go_wp2_with fail
    go_ret
    exact ⟨rfl, rfl⟩
/-- The four forms of a kind. -/
theorem kV_one {k : Int} (h : 1 ≤ k ∧ k ≤ 8) : kV k = .iface 97 (.agg #[.int .i64 (invK k), .bool (decide (k ≤ 6))]) := if_pos h
theorem kV_two {k : Int} (h : 9 ≤ k ∧ k ≤ 11) : kV k = .iface 99 (.agg #[]) := by unfold kV; rw [if_neg (by omega), if_pos h]
theorem kV_no {k : Int} (h : ¬ (1 ≤ k ∧ k ≤ 12)) : kV k = .nilIface := by unfold kV; rw [if_neg (by omega), if_neg (by omega), if_neg (by omega)]
theorem kind_cases (k : Int) : (1 ≤ k ∧ k ≤ 8) ∨ (9 ≤ k ∧ k ≤ 11) ∨ k = 12 ∨ ¬ (1 ≤ k ∧ k ≤ 12) := by omega
set_option maxRecDepth 100000 in
set_option maxHeartbeats 1600000 in
theorem iar0 (k : Int) (w : World) :
    Calls Tryz.prog 51 #[.int .i64 k] w fun e w' => e = .returned (.int .i64 (ar k)) ∧ w = w' := by
  have Hk := Lib.hid (fun w => ikind k w)
  rcases kind_cases k with h | h | rfl | h
  · rw [kV_one h] at Hk
    rw [show ar k = 1 from if_pos h]
    have h1 := as11
    clear h
    go_enter Tryz.func51, Tryz.ntmps51
    go_wp2_with fail
    refine (Hk.out _).mono ?_
    rintro e w1 ⟨rfl, rfl⟩
    go_wp2_with fail
    go_ret
    exact ⟨rfl, rfl⟩
  · rw [kV_two h] at Hk
    rw [show ar k = 2 by unfold ar; rw [if_neg (by omega), if_pos h]]
    have h1 := as21
    have h2 := as22
    clear h
    go_enter Tryz.func51, Tryz.ntmps51
    go_wp2_with fail
    refine (Hk.out _).mono ?_
    rintro e w1 ⟨rfl, rfl⟩
    go_wp2_with fail
    go_ret
    exact ⟨rfl, rfl⟩
  · have Hk' : Hid (∀ w, Calls Tryz.prog 71 #[.int .i64 12] w fun e w' => e = .returned (.iface 100 (.agg #[])) ∧ w = w') := Hk
    rw [show ar 12 = 3 from rfl]
    clear Hk
    have h1 := as31
    have h2 := as32
    have h3 := as33
    go_enter Tryz.func51, Tryz.ntmps51
    go_wp2_with fail
    refine (Hk'.out _).mono ?_
    rintro e w1 ⟨rfl, rfl⟩
    go_wp2_with fail
    go_ret
    exact ⟨rfl, rfl⟩
  · rw [kV_no h] at Hk
    rw [show ar k = 0 by unfold ar; rw [if_neg (by omega), if_neg (by omega), if_neg (by omega)]]
    have h1 := as01
    have h2 := as02
    have h3 := as03
    clear h
    go_enter Tryz.func51, Tryz.ntmps51
    go_wp2_with fail
    refine (Hk.out _).mono ?_
    rintro e w1 ⟨rfl, rfl⟩
    go_wp2_with fail
    go_ret
    exact ⟨rfl, rfl⟩
end Go.Proofs.YtbnkanlebjpkfaaGreatDoor
namespace Go.Proofs.YtbnkanlebjpkfaaGreatDoor
open Go.RowKit
def bitN (i q : Nat) : Bool := (i >>> q) % 2 == 1
def lowN (i q : Nat) : Nat := if bitN i q then flipN i q else i
/-- Where a gate of kind k on A, B, C sends the amplitude at i, and with which factors. -/
def goesL (k : Int) (A B C i : Nat) : List (Nat × Dw) :=
  if k = 1 then [(if true then flipN i A else i, dPh 0)]
  else if k = 2 then [(flipN i A, dPh (if bitN i A then 6 else 2))]
  else if k = 3 then [(i, if bitN i A then dPh 4 else dPh 0)]
  else if k = 5 then [(i, if bitN i A then dPh 2 else dPh 0)]
  else if k = 6 then [(i, if bitN i A then dPh 6 else dPh 0)]
  else if k = 7 then [(i, if bitN i A then dPh 1 else dPh 0)]
  else if k = 8 then [(i, if bitN i A then dPh 7 else dPh 0)]
  else if k = 9 then [(if bitN i A then flipN i B else i, dPh 0)]
  else if k = 10 then [(i, if (bitN i A && bitN i B) then dPh 4 else dPh 0)]
  else if k = 12 then [(if (bitN i A && bitN i B) then flipN i C else i, dPh 0)]
  else if k = 11 then [(if bitN i A != bitN i B then flipN (flipN i A) B else i, dPh 0)]
  else [(lowN i A, isV 1), (flipN (lowN i A) A, if bitN i A then dNegV (isV 1) else isV 1)]
attribute [local irreducible] World.cell?
end Go.Proofs.YtbnkanlebjpkfaaGreatDoor
namespace Go.Proofs.YtbnkanlebjpkfaaGreatDoor
open Go.RowKit
attribute [local irreducible] World.cell?
end Go.Proofs.YtbnkanlebjpkfaaGreatDoor
namespace Go.Proofs.YtbnkanlebjpkfaaGreatDoor
open Go.RowKit
attribute [local irreducible] World.cell?
end Go.Proofs.YtbnkanlebjpkfaaGreatDoor
namespace Go.Proofs.YtbnkanlebjpkfaaGreatDoor
open Go.RowKit
attribute [local irreducible] World.cell?
end Go.Proofs.YtbnkanlebjpkfaaGreatDoor
