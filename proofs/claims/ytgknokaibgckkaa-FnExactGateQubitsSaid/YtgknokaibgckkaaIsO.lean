/- A slice of integers that comes in; the laws' helpers over such slices as the laws' walks take them. -/
import Derived.Test.YtgknokaibgckkaaIsL
import Derived.Test.YtgknokaibgckkaaDsN
import Derived.Deep.Slices
import Derived.OpenShut
namespace Go.Proofs.Ytgknokaibgckkaa
open Go.ChangeShapes Go.WideShapes Go.ChangeAt Go.RowKit Go.Lib Go.Joins
set_option maxRecDepth 100000 in
set_option maxHeartbeats 400000 in
theorem open_is {H : Type} {enc : TypeId × Value → H} {w : World} {spare : Nat → Bool} {held : Bool} {r : Reach} {b0 : Nat} {v : Value} {d : DataW H} {p : List MemPlace}
    (hv : Value.okWide Try.prog w r b0 31 v) (h : DataW.Trod enc Try.prog w 0 spare held 31 v d p) :
    ∃ a0 cap l, v = .slice a0 (List.length l) cap ∧ IsIn w w.heap.size a0 l := by
  obtain ⟨a0, len, cap, rfl⟩ := okWide_slice Try.underlying31 hv
  obtain ⟨fuel, hf⟩ := h
  rcases open_ints Try.underlying31 Try.underlying3 (by kernel_rfl) hf with ⟨hcs, _⟩ | ⟨x, l, c, zs, hcs, _, hl, hm, hz, _, hcell, hwz⟩
  · simp [Value.cells] at hcs
    obtain ⟨rfl, rfl, rfl⟩ := hcs
    exact ⟨none, 0, [], rfl, Nat.zero_le _, fun y hy => absurd hy List.not_mem_nil, fun h => absurd h (by simp)⟩
  · simp [Value.cells] at hcs
    obtain ⟨rfl, rfl, rfl⟩ := hcs
    have hlz : len ≤ zs.length := by rw [hz]; split <;> omega
    have hlen : (zs.take len).length = len := by rw [List.length_take]; omega
    refine ⟨some x, cap, zs.take len, by rw [hlen], by rw [hlen]; omega, fun y hy => ?_, fun h0 => ?_⟩
    · have h1 := hwz y (List.mem_of_mem_take hy)
      exact ⟨(bounds_i64 h1).1, (bounds_i64 h1).2⟩
    · rw [hlen] at h0
      obtain ⟨b, off, rfl, hat⟩ := ints_at hcell (by omega)
      have hb := World.block_lt_of_cell? _ _ (hat 0 (by omega))
      refine ⟨b, off, rfl, hb, fun j y hy => ?_⟩
      rw [List.getElem?_take] at hy
      split at hy
      · rw [hat j (by omega), List.getD_eq_getElem?_getD, hy]; rfl
      · cases hy
open Go.RowKit
theorem markI1 (B C : Nat) (v : Value) (l : List Int) (w : World) (hv : intE.Sc w B C v l) (hm : l.length ≤ 1048576) :
    Calls Try.prog 28 #[v, .int .i64 1] w fun e w' => e = .returned (.int .i64 (1 + (l.length : Int))) ∧ intE.Sc w' B C v (marksI 1 l.length) ∧ Mid B C w w' := by
  refine (markIs B C 1 v l w hv hm (by omega)).mono ?_
  rintro e w1 ⟨rfl, h⟩
  exact ⟨by simp, h⟩
theorem markI2 (B C m : Nat) (v : Value) (l : List Int) (w : World) (hv : intE.Sc w B C v l) (hm : l.length ≤ 1048576) (hm' : m ≤ 1048576) :
    Calls Try.prog 28 #[v, .int .i64 (1 + (m : Int))] w fun e w' => e = .returned (.int .i64 (1 + (m : Int) + (l.length : Int))) ∧ intE.Sc w' B C v (marksI (1 + m) l.length) ∧ Mid B C w w' := by
  have h := markIs B C (1 + m) v l w hv hm (by omega)
  rw [show ((1 + m : Nat) : Int) = 1 + (m : Int) by simp] at h
  refine h.mono ?_
  rintro e w1 ⟨rfl, h⟩
  exact ⟨by simp, h⟩
theorem heldI1 (B n : Nat) (v : Value) (w : World) (hv : intE.Sl w B v (marksI 1 n)) (hm : n ≤ 1048576) :
    Calls Try.prog 29 #[v, .int .i64 1] w fun e w' => e = .returned (.int .i64 (1 + (n : Int))) ∧ w = w' := by
  refine (heldIs B 1 n v w hv hm (by omega)).mono ?_
  rintro e w1 ⟨rfl, h⟩
  exact ⟨by simp, h⟩
theorem eqI_self (B C : Nat) (v u : Value) (a : List Int) (w : World) (hv : intE.Sl w B v a) (hu : intE.Sl w C u a) (hm : a.length ≤ 1048576) :
    Calls Try.prog 27 #[v, u] w fun e w' => e = .returned (.bool true) ∧ Below w.heap.size w w' := by
  have h := eqIs B C v u a a w hv hu hm hm
  rwa [decide_eq_true rfl] at h
end Go.Proofs.Ytgknokaibgckkaa
