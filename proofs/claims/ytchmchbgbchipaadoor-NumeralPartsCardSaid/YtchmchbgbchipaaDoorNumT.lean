/-
  Layer 3: the variables of strconv out of a row's condition.
-/
import Derived.Test.YtchmchbgbchipaaDoorNumD
import Derived.Test.YtchmchbgbchipaaDoorFr
import Derived.Lib.LaidTab
import Derived.Lib.LaidU8
namespace Go.Proofs.YtchmchbgbchipaaDoor
open Go.RowKit Go.ChangeShapes

theorem star : "*" ++ "errors.errorString" = "*errors.errorString" := by decide
theorem row_err (u : TypeId) (h : Tryd.prog.typeName? 3 u = some "*errors.errorString") : u = 93 :=
  typeName_ptr_named (nm := "errors.errorString") (by rw [star]; kernel_rfl) (by kernel_rfl) (by decide) u (by rw [star]; exact h)
theorem nvars_of {W : World} (h : laidMet Tryd.prog [("math/bits.deBruijn32tab", Rows.laid_math_bits_deBruijn32tab), ("math/bits.deBruijn64tab", Rows.laid_math_bits_deBruijn64tab), ("internal/strconv.uint64pow10", Rows.laid_internal_strconv_uint64pow10), ("strconv.ErrRange", Rows.laid_strconv_ErrRange), ("strconv.ErrSyntax", Rows.laid_strconv_ErrSyntax)] W) : NVars W := by
  have h3 := laidMet.tail (laidMet.tail h)
  have h4 := laidMet.tail h3
  have h5 := laidMet.tail h4
  obtain ⟨a, s, hr, -⟩ := laid_sentinel (tp := 93) (te := 95) h4 gRan (by kernel_rfl) Tryd.underlying52 row_err Tryd.underlying93 Tryd.underlying95 rfl rfl Tryd.underlying9 (by kernel_rfl) (by kernel_rfl)
  obtain ⟨a', s', hs, -⟩ := laid_sentinel (tp := 93) (te := 95) h5 gSyn (by kernel_rfl) Tryd.underlying52 row_err Tryd.underlying93 Tryd.underlying95 rfl rfl Tryd.underlying9 (by kernel_rfl) (by kernel_rfl)
  refine ⟨?_, ⟨_, _, hs⟩, ⟨_, _, hr⟩⟩
  exact Lib.tabIs_of_head gPow (by kernel_rfl) Tryd.underlying87 Tryd.underlying68 (by kernel_rfl) (by kernel_rfl) h3
end Go.Proofs.YtchmchbgbchipaaDoor
