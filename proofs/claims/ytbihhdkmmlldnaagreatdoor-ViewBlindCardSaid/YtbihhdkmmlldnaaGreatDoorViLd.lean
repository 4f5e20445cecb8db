/- The library's error lies as its initialiser laid it, for the rows of layer 17. -/
import Derived.Test.YtbihhdkmmlldnaaGreatDoorDnLd
namespace Go.Proofs.YtbihhdkmmlldnaaGreatDoor
set_option linter.unusedSimpArgs false
set_option linter.unusedVariables false
open Go Go.RowKit Go.Proofs.BerK Go.Proofs.MemK Go.Proofs.UtfK

theorem errOk_vt {W : World} (h : laidMetH Tryz.prog Rows.viewTellsRow.laid W) : ErrOk W := by
  rw [MakeChecks.laidMetH_plain _ _ _ (by kernel_rfl)] at h
  exact errOk_laid h.tail.tail.tail.tail.tail
theorem errOk_vb {W : World} (h : laidMetH Tryz.prog Rows.viewBlindRow.laid W) : ErrOk W := by
  rw [MakeChecks.laidMetH_plain _ _ _ (by kernel_rfl)] at h
  exact errOk_laid h.tail.tail.tail.tail.tail
theorem errOk_vl {W : World} (h : laidMetH Tryz.prog Rows.viewLessRow.laid W) : ErrOk W := by
  rw [MakeChecks.laidMetH_plain _ _ _ (by kernel_rfl)] at h
  exact errOk_laid h.tail.tail.tail.tail.tail
end Go.Proofs.YtbihhdkmmlldnaaGreatDoor
