/-
  What the listed tables hold: the powers of ten, and the table of trailing zeros.
-/
import Derived.Test.YtkbjaneekblgmaaGreatDoorOpenL
import Derived.Test.YtkbjaneekblgmaaGreatDoorFndM
import Derived.Shelf.Vars
import Derived.Lib.LaidTab
namespace Go.Proofs.YtkbjaneekblgmaaGreatDoor
open Go.ChangeShapes Go.WideShapes Go.ChangeAt Go.RowKit

def laidD : List (String × DataW Unit) := [("math/bits.deBruijn32tab", Rows.laid_math_bits_deBruijn32tab), ("math/bits.deBruijn64tab", Rows.laid_math_bits_deBruijn64tab), ("internal/strconv.uint64pow10", Rows.laid_internal_strconv_uint64pow10), ("errors.errorType", Rows.laid_errors_errorType), ("testimony/model.known", Rows.laid_testimony_model_known)]
theorem gPow : Tryz.prog.globalNamed "internal/strconv.uint64pow10" = some 1 := by kernel_rfl
theorem gDeb : Tryz.prog.globalNamed "math/bits.deBruijn64tab" = some 4 := by kernel_rfl
def debTab : List Int := [0, 1, 56, 2, 57, 49, 28, 3, 61, 58, 42, 50, 38, 29, 17, 4, 62, 47, 59, 36, 45, 43, 51, 22, 53, 39, 33, 30, 24, 18, 12, 5, 63, 55, 48, 27, 60, 41, 37, 16, 46, 35, 44, 21, 52, 32, 23, 11, 54, 26, 40, 15, 34, 20, 31, 10, 25, 14, 19, 9, 13, 8, 7, 6]
theorem pow_of {W : World} (h : laidMetH Tryz.prog laidD W) : PowAt W := by
  have h1 : laidMet Tryz.prog [("internal/strconv.uint64pow10", Rows.laid_internal_strconv_uint64pow10)] W := (laidMetH_iff.1 (laidMetH.filter (fun x => x.1 == "internal/strconv.uint64pow10") h)).1
  exact Lib.tabIs_of_head (k := .u64) (zs := Lib.pow10Tab) (t := 118) (e := 45) (n := 20) gPow (by kernel_rfl) (by kernel_rfl) (by kernel_rfl) (by kernel_rfl) (by kernel_rfl) h1
theorem deb_of {W : World} (h : laidMetH Tryz.prog laidD W) : DebAt W := by
  have h1 : laidMet Tryz.prog [("math/bits.deBruijn64tab", Rows.laid_math_bits_deBruijn64tab)] W := (laidMetH_iff.1 (laidMetH.filter (fun x => x.1 == "math/bits.deBruijn64tab") h)).1
  exact Lib.TabIs.cell (Lib.tabIs_of_head (k := .u8) (zs := debTab) (t := 159) (e := 5) (n := 64) gDeb (by kernel_rfl) (by kernel_rfl) (by kernel_rfl) (by kernel_rfl) (by kernel_rfl) h1) gDeb 15 (by decide)
end Go.Proofs.YtkbjaneekblgmaaGreatDoor
