/- The library's error lies as its initialiser laid it, for the rows of layers 9 and 10. -/
import Derived.Test.YtcfckgpjdaadeaaGreatDoorDnLd
namespace Go.Proofs.YtcfckgpjdaadeaaGreatDoor
set_option linter.unusedSimpArgs false
set_option linter.unusedVariables false
open Go Go.RowKit Go.Proofs.BerK Go.Proofs.MemK Go.Proofs.UtfK
theorem errOk_none {W : World} (h : laidMetH Tryz.prog Rows.schemaNoneRow.laid W) : ErrOk W := by
  rw [MakeChecks.laidMetH_plain _ _ _ (by kernel_rfl)] at h
  exact errOk_laid h.tail.tail.tail.tail.tail
theorem errOk_new {W : World} (h : laidMetH Tryz.prog Rows.schemaNewRow.laid W) : ErrOk W := by
  rw [MakeChecks.laidMetH_plain _ _ _ (by kernel_rfl)] at h
  exact errOk_laid h.tail.tail.tail.tail.tail
theorem errOk_plain {W : World} (h : laidMetH Tryz.prog Rows.schemaPlainRow.laid W) : ErrOk W := by
  rw [MakeChecks.laidMetH_plain _ _ _ (by kernel_rfl)] at h
  exact errOk_laid h.tail.tail.tail.tail.tail
theorem errOk_sel {W : World} (h : laidMetH Tryz.prog Rows.entrySelectsRow.laid W) : ErrOk W := by
  rw [MakeChecks.laidMetH_plain _ _ _ (by kernel_rfl)] at h
  exact errOk_laid h.tail.tail.tail.tail.tail
theorem errOk_ent {W : World} (h : laidMetH Tryz.prog Rows.entryOnceRow.laid W) : ErrOk W := by
  rw [MakeChecks.laidMetH_plain _ _ _ (by kernel_rfl)] at h
  exact errOk_laid h.tail.tail.tail.tail.tail
end Go.Proofs.YtcfckgpjdaadeaaGreatDoor
