/- What the rows' lists give together: the table of powers of ten, the two errors, the gates' names; what the walks carry. -/
import Derived.Test.YtbnkanlebjpkfaaDoorLaid
import Derived.Test.YtbnkanlebjpkfaaDoorB08
import Derived.Test.YtbnkanlebjpkfaaDoorSplitI
namespace Go.Proofs.YtbnkanlebjpkfaaDoor
open Go.RowKit Go.Lib
theorem laid4 {W : World} {r : List (String × DataW Unit)} (h : laidMet Tryd.prog (("math/bits.deBruijn32tab", Rows.laid_math_bits_deBruijn32tab) :: ("math/bits.deBruijn64tab", Rows.laid_math_bits_deBruijn64tab) :: ("internal/strconv.uint64pow10", Rows.laid_internal_strconv_uint64pow10) :: ("loop.example/g00506/impl.gateNames", Rows.laid_loop_example_g00506_impl_gateNames) :: r) W) : HasPow W ∧ HasNames W :=
  ⟨laid3 h, laidNames (laidMet.tail (laidMet.tail (laidMet.tail h)))⟩
theorem laid8 {W : World} {r : List (String × DataW Unit)} (h : laidMet Tryd.prog (("math/bits.deBruijn32tab", Rows.laid_math_bits_deBruijn32tab) :: ("math/bits.deBruijn64tab", Rows.laid_math_bits_deBruijn64tab) :: ("internal/strconv.uint64pow10", Rows.laid_internal_strconv_uint64pow10) :: ("unicode/utf8.acceptRanges", Rows.laid_unicode_utf8_acceptRanges) :: ("strconv.ErrRange", Rows.laid_strconv_ErrRange) :: ("strconv.ErrSyntax", Rows.laid_strconv_ErrSyntax) :: ("loop.example/g00506/impl.gateNames", Rows.laid_loop_example_g00506_impl_gateNames) :: r) W) : HasPow W ∧ HasErrs W ∧ HasNames W := by
  refine ⟨laid3 h, ?_, laidNames (laidMet.tail (laidMet.tail (laidMet.tail (laidMet.tail (laidMet.tail (laidMet.tail h))))))⟩
  obtain ⟨a0, s0, hv0, -, -, -⟩ := laid_sentinel (laidMet.tail (laidMet.tail (laidMet.tail (laidMet.tail h)))) gRan gRanType Tryd.underlying94 rowErr Tryd.underlying144 Tryd.underlying146 rfl rfl Tryd.underlying9 cellsErr cellsStr
  obtain ⟨a1, s1, hv1, -, -, -⟩ := laid_sentinel (laidMet.tail (laidMet.tail (laidMet.tail (laidMet.tail (laidMet.tail h))))) gSyn gSynType Tryd.underlying94 rowErr Tryd.underlying144 Tryd.underlying146 rfl rfl Tryd.underlying9 cellsErr cellsStr
  exact ⟨⟨_, _, hv1⟩, _, _, hv0⟩
/-- All that the walks of the twelfth chapter carry. -/
def LW (w : World) : Prop := HasPow w ∧ HasErrs w ∧ HasMax w ∧ HasNames w
theorem LW.below {w w' : World} (h : LW w) (hb : Below w.heap.size w w') : LW w' := ⟨h.1.below hb, h.2.1.below hb, h.2.2.1.below hb, h.2.2.2.below hb⟩
theorem LW.names {w : World} (h : LW w) : HasNames w := h.2.2.2
theorem lw_of {W : World} {r : List (String × DataW Unit)} (h : laidMet Tryd.prog (("math/bits.deBruijn32tab", Rows.laid_math_bits_deBruijn32tab) :: ("math/bits.deBruijn64tab", Rows.laid_math_bits_deBruijn64tab) :: ("internal/strconv.uint64pow10", Rows.laid_internal_strconv_uint64pow10) :: ("unicode/utf8.acceptRanges", Rows.laid_unicode_utf8_acceptRanges) :: ("strconv.ErrRange", Rows.laid_strconv_ErrRange) :: ("strconv.ErrSyntax", Rows.laid_strconv_ErrSyntax) :: ("loop.example/g00506/impl.gateNames", Rows.laid_loop_example_g00506_impl_gateNames) :: r) W) (hS : W.ShapedOpen Tryd.prog) : LW W :=
  ⟨(laid8 h).1, (laid8 h).2.1, HasMax.of hS, (laid8 h).2.2⟩
end Go.Proofs.YtbnkanlebjpkfaaDoor
