/- What the rows' lists give: the table of powers of ten, the two errors. -/
import Derived.Test.YtbnkanlebjpkfaaDoorWithin
import Derived.Lib.LaidTab
import Derived.Stop.LaidErr
namespace Go.Proofs.YtbnkanlebjpkfaaDoor
open Go.RowKit Go.Lib
theorem gPowType : (Tryd.prog.globals[1]?).map (·.type) = some 125 := by kernel_rfl
theorem cellsTab : Tryd.prog.cellsOf 125 = 20 := by kernel_rfl
theorem cells64 : Tryd.prog.cellsOf 107 = 1 := by kernel_rfl
theorem laid3 {W : World} {r : List (String × DataW Unit)} (h : laidMet Tryd.prog (("math/bits.deBruijn32tab", Rows.laid_math_bits_deBruijn32tab) :: ("math/bits.deBruijn64tab", Rows.laid_math_bits_deBruijn64tab) :: ("internal/strconv.uint64pow10", Rows.laid_internal_strconv_uint64pow10) :: r) W) : HasPow W :=
  Lib.tabIs_of_head gPow gPowType Tryd.underlying125 Tryd.underlying107 cells64 cellsTab (laidMet.tail (laidMet.tail h))
theorem gSynType : (Tryd.prog.globals[3]?).map (·.type) = some 94 := by kernel_rfl
theorem gRanType : (Tryd.prog.globals[4]?).map (·.type) = some 94 := by kernel_rfl
theorem cellsErr : Tryd.prog.cellsOf 146 = 1 := by kernel_rfl
theorem cellsStr : Tryd.prog.cellsOf 9 = 1 := by kernel_rfl
theorem starErr : "*" ++ "errors.errorString" = "*errors.errorString" := by decide
theorem rowErr (u : TypeId) (h : Tryd.prog.typeName? 3 u = some "*errors.errorString") : u = 144 :=
  typeName_ptr_named (nm := "errors.errorString") (by rw [starErr]; kernel_rfl) (by kernel_rfl) (by decide) u (by rw [starErr]; exact h)
end Go.Proofs.YtbnkanlebjpkfaaDoor
