/- The program's kinds of gates: gateKindOf, Arity, InverseGate, IsClifford. -/
import Derived.Test.YtgknokaibgckkaaDoorGtS
import Derived.Test.YtgknokaibgckkaaDoorIsq
namespace Go.Proofs.YtgknokaibgckkaaDoor
open Go.RowKit
/-- What gateKindOf answers. -/
def kV (k : Int) : Value :=
  if 1 ≤ k ∧ k ≤ 8 then .iface 31 (.agg #[.int .i64 (invK k), .bool (decide (k ≤ 6))])
  else if 9 ≤ k ∧ k ≤ 11 then .iface 33 (.agg #[])
  else if k = 12 then .iface 34 (.agg #[]) else .nilIface
theorem mkK1 (x : Value) (w : World) : (Instr.makeInterface 31 x).run Tryd.prog w = .ok (.iface 31 x) w := run_makeInterface w 31 x (by kernel_rfl)
theorem mkK2 (x : Value) (w : World) : (Instr.makeInterface 33 x).run Tryd.prog w = .ok (.iface 33 x) w := run_makeInterface w 33 x (by kernel_rfl)
theorem mkK3 (x : Value) (w : World) : (Instr.makeInterface 34 x).run Tryd.prog w = .ok (.iface 34 x) w := run_makeInterface w 34 x (by kernel_rfl)
theorem as11 (v : Value) (w : World) : (Instr.typeAssert (.iface 31 v) 28 31 true).run Tryd.prog w = .ok (.tuple #[v, .bool true]) w := by kernel_rfl
theorem as21 (v : Value) (w : World) : (Instr.typeAssert (.iface 33 v) 28 31 true).run Tryd.prog w = .ok (.tuple #[.agg #[.int .i64 0, .bool false], .bool false]) w := by kernel_rfl
theorem as31 (v : Value) (w : World) : (Instr.typeAssert (.iface 34 v) 28 31 true).run Tryd.prog w = .ok (.tuple #[.agg #[.int .i64 0, .bool false], .bool false]) w := by kernel_rfl
theorem as01 (w : World) : (Instr.typeAssert .nilIface 28 31 true).run Tryd.prog w = .ok (.tuple #[.agg #[.int .i64 0, .bool false], .bool false]) w := by kernel_rfl
theorem as22 (v : Value) (w : World) : (Instr.typeAssert (.iface 33 v) 28 33 true).run Tryd.prog w = .ok (.tuple #[v, .bool true]) w := by kernel_rfl
theorem as32 (v : Value) (w : World) : (Instr.typeAssert (.iface 34 v) 28 33 true).run Tryd.prog w = .ok (.tuple #[.agg #[], .bool false]) w := by kernel_rfl
theorem as02 (w : World) : (Instr.typeAssert .nilIface 28 33 true).run Tryd.prog w = .ok (.tuple #[.agg #[], .bool false]) w := by kernel_rfl
theorem as33 (v : Value) (w : World) : (Instr.typeAssert (.iface 34 v) 28 34 true).run Tryd.prog w = .ok (.tuple #[v, .bool true]) w := by kernel_rfl
theorem as03 (w : World) : (Instr.typeAssert .nilIface 28 34 true).run Tryd.prog w = .ok (.tuple #[.agg #[], .bool false]) w := by kernel_rfl
attribute [local irreducible] World.cell?
set_option maxRecDepth 100000 in
set_option maxHeartbeats 3200000 in
theorem ikind (k : Int) (w : World) :
    Calls Tryd.prog 8 #[.int .i64 k] w fun e w' => e = .returned (kV k) ∧ w = w' := by
  have m1 := mkK1
  have m2 := mkK2
  have m3 := mkK3
  by_cases h : 1 ≤ k ∧ k ≤ 12
  · rcases (show k = 1 ∨ k = 2 ∨ k = 3 ∨ k = 4 ∨ k = 5 ∨ k = 6 ∨ k = 7 ∨ k = 8 ∨ k = 9 ∨ k = 10 ∨ k = 11 ∨ k = 12 by omega) with rfl | rfl | rfl | rfl | rfl | rfl | rfl | rfl | rfl | rfl | rfl | rfl
    all_goals clear h
    all_goals go_enter Tryd.func8, Tryd.ntmps8
    all_goals go_wp2_with fail
    all_goals go_ret
    all_goals exact ⟨rfl, rfl⟩
  · have e : kV k = .nilIface := by unfold kV; rw [if_neg (by omega), if_neg (by omega), if_neg (by omega)]
    rw [e]
    have e1 : (k == 1) = false := by simp; omega
    have e2 : (k == 2) = false := by simp; omega
    have e3 : (k == 3) = false := by simp; omega
    have e4 : (k == 4) = false := by simp; omega
    have e5 : (k == 5) = false := by simp; omega
    have e6 : (k == 6) = false := by simp; omega
    have e7 : (k == 7) = false := by simp; omega
    have e8 : (k == 8) = false := by simp; omega
    have e9 : (k == 9) = false := by simp; omega
    have e10 : (k == 10) = false := by simp; omega
    have e11 : (k == 11) = false := by simp; omega
    have e12 : (k == 12) = false := by simp; omega
    clear h e
    go_enter Tryd.func8, Tryd.ntmps8
    go_wp2_with fail
    go_ret
    exact ⟨rfl, rfl⟩
/-- The four forms of a kind. -/
theorem kV_one {k : Int} (h : 1 ≤ k ∧ k ≤ 8) : kV k = .iface 31 (.agg #[.int .i64 (invK k), .bool (decide (k ≤ 6))]) := if_pos h
theorem kV_two {k : Int} (h : 9 ≤ k ∧ k ≤ 11) : kV k = .iface 33 (.agg #[]) := by unfold kV; rw [if_neg (by omega), if_pos h]
theorem kV_no {k : Int} (h : ¬ (1 ≤ k ∧ k ≤ 12)) : kV k = .nilIface := by unfold kV; rw [if_neg (by omega), if_neg (by omega), if_neg (by omega)]
theorem kind_cases (k : Int) : (1 ≤ k ∧ k ≤ 8) ∨ (9 ≤ k ∧ k ≤ 11) ∨ k = 12 ∨ ¬ (1 ≤ k ∧ k ≤ 12) := by omega
set_option maxRecDepth 100000 in
set_option maxHeartbeats 1600000 in
theorem iar0 (k : Int) (w : World) :
    Calls Tryd.prog 7 #[.int .i64 k] w fun e w' => e = .returned (.int .i64 (ar k)) ∧ w = w' := by
  have Hk := Lib.hid (fun w => ikind k w)
  rcases kind_cases k with h | h | rfl | h
  · rw [kV_one h] at Hk
    rw [show ar k = 1 from if_pos h]
    have h1 := as11
    clear h
    go_enter Tryd.func7, Tryd.ntmps7
    go_wp2_with fail
    refine (Hk.out _).mono ?_
    rintro e w1 ⟨rfl, rfl⟩
    go_wp2_with fail
    go_ret
    exact ⟨rfl, rfl⟩
  · rw [kV_two h] at Hk
    rw [show ar k = 2 by unfold ar; rw [if_neg (by omega), if_pos h]]
    have h1 := as21
    have h2 := as22
    clear h
    go_enter Tryd.func7, Tryd.ntmps7
    go_wp2_with fail
    refine (Hk.out _).mono ?_
    rintro e w1 ⟨rfl, rfl⟩
    go_wp2_with fail
    go_ret
    exact ⟨rfl, rfl⟩
  · have Hk' : Hid (∀ w, Calls Tryd.prog 8 #[.int .i64 12] w fun e w' => e = .returned (.iface 34 (.agg #[])) ∧ w = w') := Hk
    rw [show ar 12 = 3 from rfl]
    clear Hk
    have h1 := as31
    have h2 := as32
    have h3 := as33
    go_enter Tryd.func7, Tryd.ntmps7
    go_wp2_with fail
    refine (Hk'.out _).mono ?_
    rintro e w1 ⟨rfl, rfl⟩
    go_wp2_with fail
    go_ret
    exact ⟨rfl, rfl⟩
  · rw [kV_no h] at Hk
    rw [show ar k = 0 by unfold ar; rw [if_neg (by omega), if_neg (by omega), if_neg (by omega)]]
    have h1 := as01
    have h2 := as02
    have h3 := as03
    clear h
    go_enter Tryd.func7, Tryd.ntmps7
    go_wp2_with fail
    refine (Hk.out _).mono ?_
    rintro e w1 ⟨rfl, rfl⟩
    go_wp2_with fail
    go_ret
    exact ⟨rfl, rfl⟩
theorem iar (k : Int) (w : World) (_ : -9223372036854775808 ≤ k) (_ : k ≤ 9223372036854775807) : Calls Tryd.prog 7 #[.int .i64 k] w fun e w' => e = .returned (.int .i64 (ar k)) ∧ Below w.heap.size w w' :=
  (iar0 k w).mono fun e w' ⟨h1, h2⟩ => ⟨h1, by subst h2; exact Below.refl _ _⟩
end Go.Proofs.YtgknokaibgckkaaDoor
