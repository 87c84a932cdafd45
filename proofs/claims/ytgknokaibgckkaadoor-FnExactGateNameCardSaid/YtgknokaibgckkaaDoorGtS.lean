/- The model's InverseGate, IsClifford, ActsOn, GateName; the laws' own gates. -/
import Derived.Test.YtgknokaibgckkaaDoorGtB
namespace Go.Proofs.YtgknokaibgckkaaDoor
open Go.RowKit
/-- InverseGate, of kinds and of gates. -/
def invK (k : Int) : Int := if k = 5 then 6 else if k = 6 then 5 else if k = 7 then 8 else if k = 8 then 7 else k
def invG (g : Gt) : Gt := ⟨invK g.k, g.a, g.b, g.c⟩
theorem invK_invK (k : Int) : invK (invK k) = k := by
  unfold invK
  repeat' split
  all_goals omega
theorem invG_invG (g : Gt) : invG (invG g) = g := by unfold invG; simp only [invK_invK]
theorem ar_invK (k : Int) : ar (invK k) = ar k := by
  by_cases h : k = 5 ∨ k = 6 ∨ k = 7 ∨ k = 8
  · rcases h with rfl | rfl | rfl | rfl <;> rfl
  · rw [show invK k = k from by unfold invK; rw [if_neg (by omega), if_neg (by omega), if_neg (by omega), if_neg (by omega)]]
/-- IsClifford. -/
def clB (g : Gt) : Bool := decide (0 < ar g.k) && (!decide (g.k = 7) && !decide (g.k = 8) && !decide (g.k = 12))
attribute [local irreducible] World.cell?
/-- GateName. -/
def nmL : List ByteArray := [⟨#[]⟩, ⟨#[120]⟩, ⟨#[121]⟩, ⟨#[122]⟩, ⟨#[104]⟩, ⟨#[115]⟩, ⟨#[115, 100]⟩, ⟨#[116]⟩, ⟨#[116, 100]⟩, ⟨#[99, 120]⟩, ⟨#[99, 122]⟩, ⟨#[115, 119, 97, 112]⟩, ⟨#[99, 99, 120]⟩]
def nmB (k : Int) : ByteArray := if 1 ≤ k ∧ k ≤ 12 then nmL.getD k.toNat ⟨#[]⟩ else ⟨#[]⟩
set_option maxRecDepth 100000 in
set_option maxHeartbeats 1600000 in
theorem sname (k : Int) (w : World) :
    Calls Tryd.prog 4 #[.int .i64 k] w fun e w' => e = .returned (.string (nmB k)) ∧ Below w.heap.size w w' := by
  by_cases h : 1 ≤ k ∧ k ≤ 12
  · obtain ⟨m, rfl⟩ : ∃ m : Nat, k = m := ⟨k.toNat, by omega⟩
    have H1 := Lib.hid (fun w => lin_any (m : Int) 1 12 true w (decide_eq_true h))
    have hm : m ≤ 12 := by omega
    have hc : (w.alloc (.cells #[.string ⟨#[]⟩, .string ⟨#[120]⟩, .string ⟨#[121]⟩, .string ⟨#[122]⟩, .string ⟨#[104]⟩, .string ⟨#[115]⟩, .string ⟨#[115, 100]⟩, .string ⟨#[116]⟩, .string ⟨#[116, 100]⟩, .string ⟨#[99, 120]⟩, .string ⟨#[99, 122]⟩, .string ⟨#[115, 119, 97, 112]⟩, .string ⟨#[99, 99, 120]⟩] 9)).cell? ⟨w.heap.size, m, none⟩ = some (.string (nmB (m : Int))) := by
      have hb := heap_alloc_new w (.cells #[.string ⟨#[]⟩, .string ⟨#[120]⟩, .string ⟨#[121]⟩, .string ⟨#[122]⟩, .string ⟨#[104]⟩, .string ⟨#[115]⟩, .string ⟨#[115, 100]⟩, .string ⟨#[116]⟩, .string ⟨#[116, 100]⟩, .string ⟨#[99, 120]⟩, .string ⟨#[99, 122]⟩, .string ⟨#[115, 119, 97, 112]⟩, .string ⟨#[99, 99, 120]⟩] 9)
      refine cell_at hb m _ ?_
      have hm1 : 1 ≤ m := by omega
      rcases (show m = 1 ∨ m = 2 ∨ m = 3 ∨ m = 4 ∨ m = 5 ∨ m = 6 ∨ m = 7 ∨ m = 8 ∨ m = 9 ∨ m = 10 ∨ m = 11 ∨ m = 12 by omega) with rfl | rfl | rfl | rfl | rfl | rfl | rfl | rfl | rfl | rfl | rfl | rfl <;> rfl
    generalize nmB (m : Int) = s at *
    clear h
    go_enter Tryd.func4, Tryd.ntmps4
    go_wp2_with fail
    refine (H1.out _).mono ?_
    rintro e w1 ⟨rfl, rfl⟩
    go_wp2_with fail
    go_ret
    exact ⟨rfl, by go_grown⟩
  · have H1 := Lib.hid (fun w => lin_any k 1 12 false w (decide_eq_false h))
    rw [show nmB k = ⟨#[]⟩ from if_neg h]
    clear h
    go_enter Tryd.func4, Tryd.ntmps4
    go_wp2_with fail
    refine (H1.out _).mono ?_
    rintro e w1 ⟨rfl, rfl⟩
    go_wp2_with fail
    go_ret
    exact ⟨rfl, Below.refl _ _⟩
end Go.Proofs.YtgknokaibgckkaaDoor
