/- The library's error lies as its initialiser laid it, for the rows of layer 16. -/
import Derived.Test.YtbihhdkmmlldnaaGreatDoorDnLd
namespace Go.Proofs.YtbihhdkmmlldnaaGreatDoor
set_option linter.unusedSimpArgs false
set_option linter.unusedVariables false
open Go Go.RowKit Go.Proofs.BerK Go.Proofs.MemK Go.Proofs.UtfK

theorem errOk_at {W : World} (h : laidMetH Tryz.prog Rows.aclTellsRow.laid W) : ErrOk W := by
  rw [MakeChecks.laidMetH_plain _ _ _ (by kernel_rfl)] at h
  exact errOk_laid h.tail.tail.tail.tail.tail
theorem errOk_af {W : World} (h : laidMetH Tryz.prog Rows.aclFirstRow.laid W) : ErrOk W := by
  rw [MakeChecks.laidMetH_plain _ _ _ (by kernel_rfl)] at h
  exact errOk_laid h.tail.tail.tail.tail.tail
theorem errOk_ab {W : World} (h : laidMetH Tryz.prog Rows.aclBelowRow.laid W) : ErrOk W := by
  rw [MakeChecks.laidMetH_plain _ _ _ (by kernel_rfl)] at h
  exact errOk_laid h.tail.tail.tail.tail.tail
end Go.Proofs.YtbihhdkmmlldnaaGreatDoor
