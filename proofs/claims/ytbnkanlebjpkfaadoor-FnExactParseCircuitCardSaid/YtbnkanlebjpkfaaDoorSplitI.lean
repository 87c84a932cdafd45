/- impl.SplitByte: the same pieces, in a row of its own. -/
import Derived.Test.YtbnkanlebjpkfaaDoorB09
import Derived.Test.YtbnkanlebjpkfaaDoorStdSplit
namespace Go.Proofs.YtbnkanlebjpkfaaDoor
open Go.RowKit Go.Lib
/-- The library's number of the greatest short text is there. -/
def HasMax (w : World) : Prop := ∃ m, w.cell? ⟨2, 0, none⟩ = some (.int .i64 m)
theorem HasMax.of {w : World} (h : w.ShapedOpen Tryd.prog) : HasMax w := Tryd.laysM146.s1_3 w h
theorem HasMax.below {w w' : World} (h : HasMax w) (hb : Below w.heap.size w w') : HasMax w' := by
  obtain ⟨m, hm⟩ := h
  exact ⟨m, by rw [hb.cell (World.block_lt_of_cell? _ _ hm)]; exact hm⟩
set_option maxRecDepth 100000 in
set_option maxHeartbeats 400000 in
theorem isplit_any (s : ByteArray) (c : UInt8) (w : World) (hs : s.size ≤ 1048576) (hmax : HasMax w) :
    Calls Tryd.prog 37 #[.string s, .int .u8 c.toNat] w fun e w' => (∃ b, e = .returned (.slice (some ⟨b, 0, none⟩) (pcs c s).length (pcs c s).length) ∧ w.heap.size ≤ b ∧ StrRow w' b (pcs c s).length (fun j => (pcs c s).getD j ByteArray.empty)) ∧ Below w.heap.size w w' := by
  have hconv := conv_one c c.toNat rfl w
  obtain ⟨m, hm⟩ := (hmax.below ((Below.refl _ _).alloc (Nat.le_refl _) (.cells #[.int .u8 c.toNat] 5)))
  go_enter Tryd.func37, Tryd.ntmps37
  go_wp2_with fail
  refine (Any.strings_Split { Tryd.laysM146 with } Tryd.laysM146.i9 s ⟨#[c]⟩ m _ (by omega) hm (Nat.le_refl 1)).mono ?_
  rintro e w1 ⟨rfl, hw⟩
  have hrow : StrRow w1 (w.heap.size + 1) (pcs c s).length (fun j => (pcs c s).getD j ByteArray.empty) := by
    rw [hw]
    refine ⟨_, by rw [show w.heap.size + 1 = (w.alloc (.cells #[.int .u8 c.toNat] 5)).heap.size by simp]; exact heap_alloc_new _ _, fun j hj => ?_⟩
    show (((pcs c s).map Value.string).toArray)[j]? = _
    simp [List.getD, List.getElem?_eq_getElem hj]
  have hbel : Below w.heap.size w w1 := by rw [hw]; exact ((Below.refl _ _).alloc (Nat.le_refl _) _).alloc (by simp) _
  have Hr := Lib.hid hrow
  have Hb := Lib.hid hbel
  clear hrow hbel hw
  go_wp2_with fail
  go_ret
  exact ⟨⟨w.heap.size + 1, by rw [pcs_len]; rfl, by omega, Hr.out⟩, Hb.out⟩
end Go.Proofs.YtbnkanlebjpkfaaDoor
