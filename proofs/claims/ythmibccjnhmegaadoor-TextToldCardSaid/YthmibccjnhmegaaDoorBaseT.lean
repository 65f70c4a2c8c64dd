/-
  What TextTold's proof needs besides: the table of powers of ten as the program's text lays it.
-/
import Derived.Test.YthmibccjnhmegaaDoorBase
import Derived.Test.YthmibccjnhmegaaDoorToldW
namespace Go.Proofs.YthmibccjnhmegaaDoor
set_option linter.unusedVariables false
set_option linter.unusedSimpArgs false
open Go.ChangeShapes Go.WideShapes Go.ChangeAt Go.WideMaps Go.WideElems Go.RowKit

abbrev laidL2 : List (String × DataW Unit) := [("math/bits.deBruijn32tab", Rows.laid_math_bits_deBruijn32tab), ("math/bits.deBruijn64tab", Rows.laid_math_bits_deBruijn64tab), ("internal/strconv.uint64pow10", Rows.laid_internal_strconv_uint64pow10), ("unicode/utf8.acceptRanges", Rows.laid_unicode_utf8_acceptRanges), ("unicode/utf8.first", Rows.laid_unicode_utf8_first)]

theorem pow_eq : (Rows.laid_internal_strconv_uint64pow10 : DataW Unit) = Lib.tabData .u64 Lib.pow10Tab := by kernel_rfl

theorem pow_of_reads {W : World} (h : Lib.VarReads Tryd.prog W "internal/strconv.uint64pow10" (Lib.tabData .u64 Lib.pow10Tab)) : PowIn W := by
  obtain ⟨g, t, cs, fuel, p, hg, hty, hvar, hd⟩ := h
  obtain rfl := Option.some.inj (pow_named.symm.trans hg)
  have hty' : (Tryd.prog.globals[3]?).map (·.type) = some 83 := by kernel_rfl
  obtain rfl := Option.some.inj (hty'.symm.trans hty)
  unfold PowIn Lib.TabIs
  rw [hvar, ← Lib.cells_of_tab Tryd.underlying83 Tryd.underlying51 (by kernel_rfl) (by kernel_rfl) hd]

theorem tab_of_laid2 {W : World} (h : laidMetH Tryd.prog laidL2 W) : TabIn W := by
  rw [MakeChecks.laidMetH_plain _ _ _ (by kernel_rfl)] at h
  exact tab_of_reads (.tail _ (.tail _ (.tail _ (.head _)))) (.tail _ (.tail _ (.tail _ (.tail _ (.head _))))) h
theorem pow_of_laid2 {W : World} (h : laidMetH Tryd.prog laidL2 W) : PowIn W := by
  rw [MakeChecks.laidMetH_plain _ _ _ (by kernel_rfl)] at h
  exact pow_of_reads (pow_eq ▸ Lib.laidMet.reads h (.tail _ (.tail _ (.head _))))

end Go.Proofs.YthmibccjnhmegaaDoor
