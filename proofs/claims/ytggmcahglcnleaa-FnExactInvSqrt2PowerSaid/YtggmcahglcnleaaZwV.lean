/- IsValidZOmega, of the program and of its model. -/
import Derived.Test.YtggmcahglcnleaaZw
import Derived.Test.YtggmcahglcnleaaRows
import Derived.WalkKit
import Derived.WalkSpells
import Derived.WalkLawsBesides
import Derived.Lib.Hide
import Derived.OneCell
import Derived.WalkSmall
import Derived.Handy
import Derived.Deep.QuietTactic
import Derived.BigQuiet
namespace Go.Proofs.Ytggmcahglcnleaa
open Go.RowKit
attribute [local irreducible] World.cell?
theorem bcell {W w1 : World} (hb : Below W.heap.size W w1) : (∀ b o, b < W.heap.size → w1.cell? ⟨b, o, none⟩ = W.cell? ⟨b, o, none⟩) ∧ (∀ b o, b < W.heap.size → w1.frozen? ⟨b, o, none⟩ = W.frozen? ⟨b, o, none⟩) :=
  ⟨fun b o h => hb.cell (p := ⟨b, o, none⟩) h, fun b o h => hb.frozen (p := ⟨b, o, none⟩) h⟩
set_option maxRecDepth 100000 in
set_option maxHeartbeats 400000 in
theorem coefs (x : Zw) (w : World) :
    Calls Try.prog 12 #[(.agg #[.int .i64 x.a, .int .i64 x.b, .int .i64 x.c, .int .i64 x.d])] w fun e w' => e = .returned (.agg #[.int .i64 x.a, .int .i64 x.b, .int .i64 x.c, .int .i64 x.d]) ∧ Below w.heap.size w w' := by
  go_enter Try.func12, Try.ntmps12
  go_wp2_with fail
  go_returns
  exact ⟨rfl, by go_grown⟩
theorem idx4 (a b c d : Value) (w : World) :
    (Instr.index 37 (.agg #[a, b, c, d]) (.int .i64 0)).run Try.prog w = .ok a w ∧
    (Instr.index 37 (.agg #[a, b, c, d]) (.int .i64 1)).run Try.prog w = .ok b w ∧
    (Instr.index 37 (.agg #[a, b, c, d]) (.int .i64 2)).run Try.prog w = .ok c w ∧
    (Instr.index 37 (.agg #[a, b, c, d]) (.int .i64 3)).run Try.prog w = .ok d w :=
  ⟨by kernel_rfl, by kernel_rfl, by kernel_rfl, by kernel_rfl⟩
set_option maxRecDepth 100000 in
set_option maxHeartbeats 800000 in
theorem ivalid_yes (x : Zw) (w : World) (h : x.ok) :
    Calls Try.prog 10 #[(.agg #[.int .i64 x.a, .int .i64 x.b, .int .i64 x.c, .int .i64 x.d])] w fun e w' => e = .returned (.bool true) ∧ Below w.heap.size w w' := by
  obtain ⟨a, b, c, d⟩ := x
  obtain ⟨⟨a0, a1⟩, ⟨b0, b1⟩, ⟨c0, c1⟩, ⟨d0, d1⟩⟩ := h
  simp only [] at a0 a1 b0 b1 c0 c1 d0 d1
  go_enter Try.func10, Try.ntmps10
  go_wp2_with fail
  refine (coefs ⟨a, b, c, d⟩ _).mono ?_
  rintro e w1 ⟨rfl, hb1⟩
  have hb2 := ((Below.refl _ _).alloc (Nat.le_refl _) _).trans (hb1.mono (by simp))
  obtain ⟨i0, i1, i2, i3⟩ := idx4 (.int .i64 a) (.int .i64 b) (.int .i64 c) (.int .i64 d) w1
  have Hb := Lib.hid hb2
  clear hb1 hb2
  go_wp2_with fail
  go_rounds 5
  go_returns
  exact ⟨rfl, Hb.out⟩
set_option maxRecDepth 100000 in
set_option maxHeartbeats 800000 in
theorem ivalid_no (x : Zw) (w : World) (h : ¬ x.ok) :
    Calls Try.prog 10 #[(.agg #[.int .i64 x.a, .int .i64 x.b, .int .i64 x.c, .int .i64 x.d])] w fun e w' => e = .returned (.bool false) ∧ Below w.heap.size w w' := by
  obtain ⟨a, b, c, d⟩ := x
  have h' : ¬ (Near a ∧ Near b ∧ Near c ∧ Near d) := h
  simp only [Near] at h'
  clear h
  have H := Lib.hid h'
  clear h'
  go_enter Try.func10, Try.ntmps10
  go_wp2_with fail
  refine (coefs ⟨a, b, c, d⟩ _).mono ?_
  rintro e w1 ⟨rfl, hb1⟩
  have hb2 := ((Below.refl _ _).alloc (Nat.le_refl _) _).trans (hb1.mono (by simp))
  obtain ⟨i0, i1, i2, i3⟩ := idx4 (.int .i64 a) (.int .i64 b) (.int .i64 c) (.int .i64 d) w1
  have Hb := Lib.hid hb2
  clear hb1 hb2
  go_wp2_with fail
  go_rounds 5
  all_goals go_returns
  all_goals first
    | exact ⟨rfl, Hb.out⟩
    | (exfalso; have := H.out; omega)
theorem ivalid_any (x : Zw) (b : Bool) (w : World) (h : okB x = b) :
    Calls Try.prog 10 #[(.agg #[.int .i64 x.a, .int .i64 x.b, .int .i64 x.c, .int .i64 x.d])] w fun e w' => e = .returned (.bool b) ∧ Below w.heap.size w w' := by
  cases b
  · exact ivalid_no x w (okB_false.1 h)
  · exact ivalid_yes x w (okB_true.1 h)
end Go.Proofs.Ytggmcahglcnleaa
