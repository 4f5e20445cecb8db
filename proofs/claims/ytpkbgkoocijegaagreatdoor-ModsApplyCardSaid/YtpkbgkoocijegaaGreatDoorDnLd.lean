/- The library's error for a text that is no number lies as its initialiser laid it. -/
import Derived.Test.YtpkbgkoocijegaaGreatDoorDqF
import Derived.Test.YtpkbgkoocijegaaGreatDoorRows
import Derived.Test.YtpkbgkoocijegaaGreatDoorCards
import Derived.Stop.LaidErr
import Derived.LaidLaws
import Derived.LaidMore
import Derived.Lay
set_option linter.unusedVariables false
set_option linter.unusedSimpArgs false
set_option maxHeartbeats 25600000
set_option maxRecDepth 100000
namespace Go.Proofs.YtpkbgkoocijegaaGreatDoor
open Go Go.RowKit Go.Proofs.BerK Go.Proofs.MemK Go.Proofs.UtfK
theorem es_g : Tryz.prog.globalNamed "strconv.ErrSyntax" = some 3 := by kernel_rfl
theorem es_t : (Tryz.prog.globals[3]?).map (·.type) = some 290 := by kernel_rfl
theorem es_c1 : Tryz.prog.cellsOf 326 = 1 := by kernel_rfl
theorem es_c2 : Tryz.prog.cellsOf 9 = 1 := by kernel_rfl
theorem es_star : "*" ++ "errors.errorString" = "*errors.errorString" := by decide
theorem es_row (u : TypeId) (h : Tryz.prog.typeName? 3 u = some "*errors.errorString") : u = 324 :=
 typeName_ptr_named (nm := "errors.errorString") (by rw [es_star]; kernel_rfl) (by kernel_rfl) (by decide) u (by rw [es_star]; exact h)
theorem errOk_laid {W : World} {r : List (String × DataW Unit)} (h : laidMet Tryz.prog (("strconv.ErrSyntax", Rows.laid_strconv_ErrSyntax) :: r) W) : ErrOk W := by
 obtain ⟨a0, s0, hv0, hc0, hs0, hz0⟩ := laid_sentinel h es_g es_t Tryz.underlying290 es_row Tryz.underlying324 Tryz.underlying326 rfl rfl Tryz.underlying9 es_c1 es_c2
 exact ⟨_, by simpa using World.var?_cell es_g hv0 0, .inr ⟨_, _, rfl⟩⟩
end Go.Proofs.YtpkbgkoocijegaaGreatDoor
