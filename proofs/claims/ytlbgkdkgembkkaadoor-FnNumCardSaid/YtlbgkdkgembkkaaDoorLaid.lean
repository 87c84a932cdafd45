/- What the rows' lists give: the table of powers of ten, the two errors. -/
import Derived.Test.YtlbgkdkgembkkaaDoorWithin
import Derived.Lib.LaidTab
import Derived.Stop.LaidErr
namespace Go.Proofs.YtlbgkdkgembkkaaDoor
open Go.RowKit Go.Lib
theorem gPowType : (Tryd.prog.globals[0]?).map (·.type) = some 89 := by kernel_rfl
theorem cellsTab : Tryd.prog.cellsOf 89 = 20 := by kernel_rfl
theorem cells64 : Tryd.prog.cellsOf 69 = 1 := by kernel_rfl
theorem laid3 {W : World} {r : List (String × DataW Unit)} (h : laidMet Tryd.prog (("math/bits.deBruijn32tab", Rows.laid_math_bits_deBruijn32tab) :: ("math/bits.deBruijn64tab", Rows.laid_math_bits_deBruijn64tab) :: ("internal/strconv.uint64pow10", Rows.laid_internal_strconv_uint64pow10) :: r) W) : HasPow W :=
  Lib.tabIs_of_head gPow gPowType Tryd.underlying89 Tryd.underlying69 cells64 cellsTab (laidMet.tail (laidMet.tail h))
theorem gSynType : (Tryd.prog.globals[1]?).map (·.type) = some 53 := by kernel_rfl
theorem gRanType : (Tryd.prog.globals[2]?).map (·.type) = some 53 := by kernel_rfl
theorem cellsErr : Tryd.prog.cellsOf 103 = 1 := by kernel_rfl
theorem cellsStr : Tryd.prog.cellsOf 9 = 1 := by kernel_rfl
theorem starErr : "*" ++ "errors.errorString" = "*errors.errorString" := by decide
theorem rowErr (u : TypeId) (h : Tryd.prog.typeName? 3 u = some "*errors.errorString") : u = 101 :=
  typeName_ptr_named (nm := "errors.errorString") (by rw [starErr]; kernel_rfl) (by kernel_rfl) (by decide) u (by rw [starErr]; exact h)
theorem laid5 {W : World} (h : laidMet Tryd.prog (("math/bits.deBruijn32tab", Rows.laid_math_bits_deBruijn32tab) :: ("math/bits.deBruijn64tab", Rows.laid_math_bits_deBruijn64tab) :: ("internal/strconv.uint64pow10", Rows.laid_internal_strconv_uint64pow10) :: ("strconv.ErrRange", Rows.laid_strconv_ErrRange) :: ("strconv.ErrSyntax", Rows.laid_strconv_ErrSyntax) :: []) W) : HasPow W ∧ HasErrs W := by
  refine ⟨laid3 h, ?_⟩
  obtain ⟨a0, s0, hv0, -, -, -⟩ := laid_sentinel (laidMet.tail (laidMet.tail (laidMet.tail h))) gRan gRanType Tryd.underlying53 rowErr Tryd.underlying101 Tryd.underlying103 rfl rfl Tryd.underlying9 cellsErr cellsStr
  obtain ⟨a1, s1, hv1, -, -, -⟩ := laid_sentinel (laidMet.tail (laidMet.tail (laidMet.tail (laidMet.tail h)))) gSyn gSynType Tryd.underlying53 rowErr Tryd.underlying101 Tryd.underlying103 rfl rfl Tryd.underlying9 cellsErr cellsStr
  exact ⟨⟨_, _, hv1⟩, _, _, hv0⟩
end Go.Proofs.YtlbgkdkgembkkaaDoor
