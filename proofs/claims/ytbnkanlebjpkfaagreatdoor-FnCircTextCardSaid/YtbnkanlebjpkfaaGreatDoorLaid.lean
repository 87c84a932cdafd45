/- What the rows' lists give: the table of powers of ten, the two errors. -/
import Derived.Test.YtbnkanlebjpkfaaGreatDoorWithin
import Derived.Lib.LaidTab
import Derived.Stop.LaidErr
namespace Go.Proofs.YtbnkanlebjpkfaaGreatDoor
open Go.RowKit Go.Lib
theorem gPowType : (Tryz.prog.globals[1]?).map (·.type) = some 125 := by kernel_rfl
theorem cellsTab : Tryz.prog.cellsOf 125 = 20 := by kernel_rfl
theorem cells64 : Tryz.prog.cellsOf 111 = 1 := by kernel_rfl
theorem laid3 {W : World} {r : List (String × DataW Unit)} (h : laidMet Tryz.prog (("math/bits.deBruijn32tab", Rows.laid_math_bits_deBruijn32tab) :: ("math/bits.deBruijn64tab", Rows.laid_math_bits_deBruijn64tab) :: ("internal/strconv.uint64pow10", Rows.laid_internal_strconv_uint64pow10) :: r) W) : HasPow W :=
  Lib.tabIs_of_head gPow gPowType Tryz.underlying125 Tryz.underlying111 cells64 cellsTab (laidMet.tail (laidMet.tail h))
theorem gSynType : (Tryz.prog.globals[5]?).map (·.type) = some 86 := by kernel_rfl
theorem gRanType : (Tryz.prog.globals[6]?).map (·.type) = some 86 := by kernel_rfl
theorem cellsErr : Tryz.prog.cellsOf 154 = 1 := by kernel_rfl
theorem cellsStr : Tryz.prog.cellsOf 9 = 1 := by kernel_rfl
theorem starErr : "*" ++ "errors.errorString" = "*errors.errorString" := by decide
theorem rowErr (u : TypeId) (h : Tryz.prog.typeName? 3 u = some "*errors.errorString") : u = 152 :=
  typeName_ptr_named (nm := "errors.errorString") (by rw [starErr]; kernel_rfl) (by kernel_rfl) (by decide) u (by rw [starErr]; exact h)
end Go.Proofs.YtbnkanlebjpkfaaGreatDoor
