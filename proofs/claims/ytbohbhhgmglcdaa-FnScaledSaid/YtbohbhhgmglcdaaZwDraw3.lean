/- The draws of the product, of one element, of the division. -/
import Derived.Test.YtbohbhhgmglcdaaZwDraw2
namespace Go.Proofs.Ytbohbhhgmglcdaa
open Go.RowKit
/-- A slice over code bytes is returned. -/
def CodeRet (w : World) (e : Ending) : Prop := ∃ a1 l1 c1, e = .returned (.slice a1 l1 c1) ∧ CodeAt w w.heap.size a1 l1
theorem codeRet {w : World} {a1 : Option Addr} {l1 : Nat} (c1 : Nat) (h : CodeAt w w.heap.size a1 l1) : CodeRet w (.returned (.slice a1 l1 c1)) := ⟨_, _, _, rfl, h⟩
theorem CodeAt.tail {w : World} {B b off len : Nat} (h : CodeAt w B (some ⟨b, off, none⟩) len) (hp : 0 < len) : CodeAt w B (some ⟨b, off + 1, none⟩) (len - 1) := by
  refine ⟨Nat.le_trans (Nat.sub_le _ _) h.1, fun _ => ?_⟩
  obtain ⟨b', off', e, hb, hc⟩ := h.2 hp
  injection e with e
  injection e with e1 e2
  subst e1
  subst e2
  refine ⟨_, _, rfl, hb, fun j hj => ?_⟩
  obtain ⟨v, v0, v1, hv⟩ := hc (j + 1) (by omega)
  exact ⟨v, v0, v1, by rw [show off + 1 + j = off + (j + 1) by omega]; exact hv⟩
theorem CodeAt.none (w : World) (B : Nat) (a : Option Addr) : CodeAt w B a 0 := ⟨by omega, fun h => absurd h (by omega)⟩
end Go.Proofs.Ytbohbhhgmglcdaa
