/- The library's error lies as its initialiser laid it, for the rows of layer 20. -/
import Derived.Test.YtbmnpjkcomcboaaGreatDoorDnLd
namespace Go.Proofs.YtbmnpjkcomcboaaGreatDoor
set_option linter.unusedSimpArgs false
set_option linter.unusedVariables false
open Go Go.RowKit Go.Proofs.BerK Go.Proofs.MemK Go.Proofs.UtfK

theorem errOk_dp {W : World} (h : laidMetH Tryz.prog Rows.ditPlaysRow.laid W) : ErrOk W := by
  rw [MakeChecks.laidMetH_plain _ _ _ (by kernel_rfl)] at h
  first
    | exact errOk_laid h
    | exact errOk_laid h.tail
    | exact errOk_laid h.tail.tail
    | exact errOk_laid h.tail.tail.tail
    | exact errOk_laid h.tail.tail.tail.tail
    | exact errOk_laid h.tail.tail.tail.tail.tail
    | exact errOk_laid h.tail.tail.tail.tail.tail.tail
    | exact errOk_laid h.tail.tail.tail.tail.tail.tail.tail
theorem errOk_dt {W : World} (h : laidMetH Tryz.prog Rows.ditTreeRow.laid W) : ErrOk W := by
  rw [MakeChecks.laidMetH_plain _ _ _ (by kernel_rfl)] at h
  first
    | exact errOk_laid h
    | exact errOk_laid h.tail
    | exact errOk_laid h.tail.tail
    | exact errOk_laid h.tail.tail.tail
    | exact errOk_laid h.tail.tail.tail.tail
    | exact errOk_laid h.tail.tail.tail.tail.tail
    | exact errOk_laid h.tail.tail.tail.tail.tail.tail
    | exact errOk_laid h.tail.tail.tail.tail.tail.tail.tail
theorem errOk_dn {W : World} (h : laidMetH Tryz.prog Rows.ditNoneRow.laid W) : ErrOk W := by
  rw [MakeChecks.laidMetH_plain _ _ _ (by kernel_rfl)] at h
  first
    | exact errOk_laid h
    | exact errOk_laid h.tail
    | exact errOk_laid h.tail.tail
    | exact errOk_laid h.tail.tail.tail
    | exact errOk_laid h.tail.tail.tail.tail
    | exact errOk_laid h.tail.tail.tail.tail.tail
    | exact errOk_laid h.tail.tail.tail.tail.tail.tail
    | exact errOk_laid h.tail.tail.tail.tail.tail.tail.tail
theorem errOk_db {W : World} (h : laidMetH Tryz.prog Rows.ditBackRow.laid W) : ErrOk W := by
  rw [MakeChecks.laidMetH_plain _ _ _ (by kernel_rfl)] at h
  first
    | exact errOk_laid h
    | exact errOk_laid h.tail
    | exact errOk_laid h.tail.tail
    | exact errOk_laid h.tail.tail.tail
    | exact errOk_laid h.tail.tail.tail.tail
    | exact errOk_laid h.tail.tail.tail.tail.tail
    | exact errOk_laid h.tail.tail.tail.tail.tail.tail
    | exact errOk_laid h.tail.tail.tail.tail.tail.tail.tail
theorem errOk_df {W : World} (h : laidMetH Tryz.prog Rows.ditFullRow.laid W) : ErrOk W := by
  rw [MakeChecks.laidMetH_plain _ _ _ (by kernel_rfl)] at h
  first
    | exact errOk_laid h
    | exact errOk_laid h.tail
    | exact errOk_laid h.tail.tail
    | exact errOk_laid h.tail.tail.tail
    | exact errOk_laid h.tail.tail.tail.tail
    | exact errOk_laid h.tail.tail.tail.tail.tail
    | exact errOk_laid h.tail.tail.tail.tail.tail.tail
    | exact errOk_laid h.tail.tail.tail.tail.tail.tail.tail
end Go.Proofs.YtbmnpjkcomcboaaGreatDoor
