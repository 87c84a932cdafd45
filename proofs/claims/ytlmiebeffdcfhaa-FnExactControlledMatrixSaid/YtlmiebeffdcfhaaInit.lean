/- The head of the program, sign by sign: what the claim form asks of it. No condition. -/
import Derived.Test.YtlmiebeffdcfhaaRows
import Derived.JoinedOf
import Derived.WalkKit
namespace Go.Proofs.Ytlmiebeffdcfhaa
open Go.RowKit
def headSigns : List Char := [Char.ofNat 104, Char.ofNat 97, Char.ofNat 114, Char.ofNat 110, Char.ofNat 101, Char.ofNat 115, Char.ofNat 115, Char.ofNat 32, Char.ofNat 52, Char.ofNat 102, Char.ofNat 99, Char.ofNat 100, Char.ofNat 48, Char.ofNat 99, Char.ofNat 101, Char.ofNat 102, Char.ofNat 101, Char.ofNat 97, Char.ofNat 53, Char.ofNat 100, Char.ofNat 54, Char.ofNat 52, Char.ofNat 50, Char.ofNat 50, Char.ofNat 102, Char.ofNat 48, Char.ofNat 100, Char.ofNat 57, Char.ofNat 49, Char.ofNat 55, Char.ofNat 52, Char.ofNat 57, Char.ofNat 48, Char.ofNat 50, Char.ofNat 54, Char.ofNat 102, Char.ofNat 98, Char.ofNat 54, Char.ofNat 101, Char.ofNat 53,
  Char.ofNat 51, Char.ofNat 54, Char.ofNat 57, Char.ofNat 56, Char.ofNat 55, Char.ofNat 102, Char.ofNat 53, Char.ofNat 55, Char.ofNat 56, Char.ofNat 50, Char.ofNat 51, Char.ofNat 102, Char.ofNat 56, Char.ofNat 98, Char.ofNat 52, Char.ofNat 99, Char.ofNat 54, Char.ofNat 57, Char.ofNat 102, Char.ofNat 100, Char.ofNat 55, Char.ofNat 48, Char.ofNat 98, Char.ofNat 53, Char.ofNat 102, Char.ofNat 99, Char.ofNat 101, Char.ofNat 50, Char.ofNat 55, Char.ofNat 54, Char.ofNat 97, Char.ofNat 98, Char.ofNat 32, Char.ofNat 99, Char.ofNat 117, Char.ofNat 116, Char.ofNat 32, Char.ofNat 97, Char.ofNat 116, Char.ofNat 32,
  Char.ofNat 108, Char.ofNat 111, Char.ofNat 111, Char.ofNat 112, Char.ofNat 46, Char.ofNat 101, Char.ofNat 120, Char.ofNat 97, Char.ofNat 109, Char.ofNat 112, Char.ofNat 108, Char.ofNat 101, Char.ofNat 47, Char.ofNat 103, Char.ofNat 48, Char.ofNat 48, Char.ofNat 53, Char.ofNat 48, Char.ofNat 54, Char.ofNat 47, Char.ofNat 108, Char.ofNat 97, Char.ofNat 119, Char.ofNat 115, Char.ofNat 46, Char.ofNat 70, Char.ofNat 110, Char.ofNat 69, Char.ofNat 120, Char.ofNat 97, Char.ofNat 99, Char.ofNat 116, Char.ofNat 67, Char.ofNat 111, Char.ofNat 110, Char.ofNat 116, Char.ofNat 114, Char.ofNat 111, Char.ofNat 108, Char.ofNat 108,
  Char.ofNat 101, Char.ofNat 100, Char.ofNat 71, Char.ofNat 97, Char.ofNat 116, Char.ofNat 101, Char.ofNat 32, Char.ofNat 108, Char.ofNat 111, Char.ofNat 111, Char.ofNat 112, Char.ofNat 46, Char.ofNat 101, Char.ofNat 120, Char.ofNat 97, Char.ofNat 109, Char.ofNat 112, Char.ofNat 108, Char.ofNat 101, Char.ofNat 47, Char.ofNat 103, Char.ofNat 48, Char.ofNat 48, Char.ofNat 53, Char.ofNat 48, Char.ofNat 54, Char.ofNat 47, Char.ofNat 108, Char.ofNat 97, Char.ofNat 119, Char.ofNat 115, Char.ofNat 46, Char.ofNat 70, Char.ofNat 110, Char.ofNat 69, Char.ofNat 120, Char.ofNat 97, Char.ofNat 99, Char.ofNat 116, Char.ofNat 67,
  Char.ofNat 111, Char.ofNat 110, Char.ofNat 116, Char.ofNat 114, Char.ofNat 111, Char.ofNat 108, Char.ofNat 108, Char.ofNat 101, Char.ofNat 100, Char.ofNat 71, Char.ofNat 97, Char.ofNat 116, Char.ofNat 101, Char.ofNat 115, Char.ofNat 32, Char.ofNat 108, Char.ofNat 111, Char.ofNat 111, Char.ofNat 112, Char.ofNat 46, Char.ofNat 101, Char.ofNat 120, Char.ofNat 97, Char.ofNat 109, Char.ofNat 112, Char.ofNat 108, Char.ofNat 101, Char.ofNat 47, Char.ofNat 103, Char.ofNat 48, Char.ofNat 48, Char.ofNat 53, Char.ofNat 48, Char.ofNat 54, Char.ofNat 47, Char.ofNat 108, Char.ofNat 97, Char.ofNat 119, Char.ofNat 115, Char.ofNat 46,
  Char.ofNat 70, Char.ofNat 110, Char.ofNat 69, Char.ofNat 120, Char.ofNat 97, Char.ofNat 99, Char.ofNat 116, Char.ofNat 67, Char.ofNat 111, Char.ofNat 110, Char.ofNat 116, Char.ofNat 114, Char.ofNat 111, Char.ofNat 108, Char.ofNat 108, Char.ofNat 101, Char.ofNat 100, Char.ofNat 77, Char.ofNat 97, Char.ofNat 116, Char.ofNat 114, Char.ofNat 105, Char.ofNat 120]
theorem init_lit : Try.pinned.checked.prog.initOrder = String.ofList headSigns := by kernel_rfl
theorem init_list : Try.pinned.checked.prog.initOrder.toList = headSigns := by rw [init_lit, String.toList_ofList]
theorem init_head : behindMainWord (wordsSigns Try.pinned.checked.prog.initOrder.toList) = [Char.ofNat 99, Char.ofNat 117, Char.ofNat 116] :: wordsSigns (headSigns.drop 77) := by rw [init_list]; kernel_rfl
theorem lifts_of (P : Program) (r : List (List Char)) (h : behindMainWord (wordsSigns P.initOrder.toList) = [Char.ofNat 99, Char.ofNat 117, Char.ofNat 116] :: r) : stripLifts liftWords (behindMainWord (wordsSigns P.initOrder.toList)) = ([], [Char.ofNat 99, Char.ofNat 117, Char.ofNat 116] :: r) ∧ P.headLifts = [] ∧ P.liftsFinal = false ∧ P.make = some .cut := by
  have h0 : stripLifts liftWords ([Char.ofNat 99, Char.ofNat 117, Char.ofNat 116] :: r) = ([], [Char.ofNat 99, Char.ofNat 117, Char.ofNat 116] :: r) := by kernel_rfl
  have h1 : P.headLifts = [] := by unfold Program.headLifts; rw [h, h0]; kernel_rfl
  refine ⟨by rw [h, h0], h1, ?_, ?_⟩
  · unfold Program.liftsFinal; rw [h, h1]; kernel_rfl
  · unfold Program.make; rw [h]; kernel_rfl
theorem may_of (P : Program) (r : List (List Char)) (h : behindMainWord (wordsSigns P.initOrder.toList) = [Char.ofNat 99, Char.ofNat 117, Char.ofNat 116] :: r) (h1 : P.laysLater = false) (h2 : P.bearsReflect = false) (h3 : P.doorFits [] = true) : P.mayEnter = true := by
  have h0 : stripLifts liftWords ([Char.ofNat 99, Char.ofNat 117, Char.ofNat 116] :: r) = ([], [Char.ofNat 99, Char.ofNat 117, Char.ofNat 116] :: r) := by kernel_rfl
  have hc : (([Char.ofNat 99, Char.ofNat 117, Char.ofNat 116] :: r).head? == some "cut".toList) = true := by kernel_rfl
  unfold Program.mayEnter
  rw [h]
  simp only [h0, h1, h2, h3, hc, Bool.not_false, Bool.or_true, Bool.and_true]
  exact (show ∀ b : Bool, (b || (true && (([] : List String).contains "reflectrows" || !([] : List String).contains "leanrows"))) = true from fun b => by cases b <;> rfl) _
theorem init_facts : Try.pinned.checked.prog.headLifts = [] ∧ Try.pinned.checked.prog.liftsFinal = false ∧ Try.pinned.checked.prog.make = some .cut := (lifts_of _ _ init_head).2
theorem init_lays : Try.pinned.checked.prog.laysLater = false := by kernel_rfl
theorem init_bears : Try.pinned.checked.prog.bearsReflect = false := by kernel_rfl
theorem init_door : Try.pinned.checked.prog.doorFits [] = true := by kernel_rfl
theorem init_may : Try.pinned.checked.prog.mayEnter = true := may_of _ _ init_head init_lays init_bears init_door
end Go.Proofs.Ytlmiebeffdcfhaa
