/-
  The variables that a row of gen's lists: strconv's errors hold what the program's text lays.
-/
import Derived.Test.YtfpphckhjbgbhaaDoorCards
import Derived.Test.YtfpphckhjbgbhaaDoorTie
import Derived.Test.YtfpphckhjbgbhaaDoorOpenN
import Derived.Test.YtfpphckhjbgbhaaDoorRdC
import Derived.Stop.LaidErr
import Derived.Shelf.Vars
import Derived.Lib.LaidTab
import Derived.Lay
import Derived.SevenTiedAt
import Derived.LaidMore
namespace Go.Proofs.YtfpphckhjbgbhaaDoor
open Go.ChangeShapes Go.WideShapes Go.ChangeAt Go.RowKit Gn

def laidA : List (String × DataW Unit) := [("math/bits.deBruijn32tab", Rows.laid_math_bits_deBruijn32tab), ("math/bits.deBruijn64tab", Rows.laid_math_bits_deBruijn64tab), ("internal/strconv.uint64pow10", Rows.laid_internal_strconv_uint64pow10), ("unicode/utf8.acceptRanges", Rows.laid_unicode_utf8_acceptRanges), ("strconv.ErrRange", Rows.laid_strconv_ErrRange), ("strconv.ErrSyntax", Rows.laid_strconv_ErrSyntax), ("unicode/utf8.first", Rows.laid_unicode_utf8_first)]

theorem laidA_met (os : Os) (args : Array Value) : laidMetH Tryd.prog laidA ((World.laidAll Tryd.prog os laidA).forCall (fun _ _ => 0) ⟨#[], args, []⟩).memory := by
  rw [MakeChecks.laidMetH_plain _ _ _ (by kernel_rfl)]; exact laidMet_laidAll _ (by kernel_rfl) (by kernel_rfl)
theorem laidA_shaped (os : Os) : (World.laidAll Tryd.prog os laidA).Shaped Tryd.prog := World.shaped_of_ZipB (by kernel_rfl) (by kernel_rfl)

theorem starE : "*" ++ "errors.errorString" = "*errors.errorString" := by decide
theorem rowE (u : TypeId) (h : Tryd.prog.typeName? 3 u = some "*errors.errorString") : u = 118 :=
  typeName_ptr_named (nm := "errors.errorString") (by rw [starE]; kernel_rfl) (by kernel_rfl) (by decide) u (by rw [starE]; exact h)
theorem cellsE : Tryd.prog.cellsOf 120 = 1 := by kernel_rfl
theorem cellsS : Tryd.prog.cellsOf 9 = 1 := by kernel_rfl
theorem gRngT : (Tryd.prog.globals[gRng]?).map (·.type) = some 35 := by kernel_rfl
theorem gSynT : (Tryd.prog.globals[gSyn]?).map (·.type) = some 35 := by kernel_rfl

theorem errV_of {W : World} (h : laidMetH Tryd.prog laidA W) : ErrV W := by
  have h1 : laidMet Tryd.prog [("strconv.ErrRange", Rows.laid_strconv_ErrRange)] W := (laidMetH_iff.1 (laidMetH.filter (fun x => x.1 == "strconv.ErrRange") h)).1
  have h2 : laidMet Tryd.prog [("strconv.ErrSyntax", Rows.laid_strconv_ErrSyntax)] W := (laidMetH_iff.1 (laidMetH.filter (fun x => x.1 == "strconv.ErrSyntax") h)).1
  obtain ⟨a1, s1, hv1, -, -, -⟩ := laid_sentinel h1 gRng_eq gRngT Tryd.underlying35 rowE Tryd.underlying118 Tryd.underlying120 rfl rfl Tryd.underlying9 cellsE cellsS
  obtain ⟨a2, s2, hv2, -, -, -⟩ := laid_sentinel h2 gSyn_eq gSynT Tryd.underlying35 rowE Tryd.underlying118 Tryd.underlying120 rfl rfl Tryd.underlying9 cellsE cellsS
  exact ⟨⟨_, _, hv1⟩, ⟨_, _, hv2⟩⟩
end Go.Proofs.YtfpphckhjbgbhaaDoor
