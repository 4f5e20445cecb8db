/- The library's error for a text. -/
import Derived.Test.YtijglbolppkefaaGreatDoorDqF
import Derived.Test.YtijglbolppkefaaGreatDoorRows
import Derived.Test.YtijglbolppkefaaGreatDoorCards
import Derived.Stop.LaidErr
import Derived.LaidLaws
import Derived.LaidMore
import Derived.Lay
set_option linter.unusedVariables false
set_option linter.unusedSimpArgs false
set_option maxHeartbeats 25600000
set_option maxRecDepth 100000
namespace Go.Proofs.YtijglbolppkefaaGreatDoor
open Go.Proofs.Tryz
open Go Go.RowKit Go.Proofs.BerK Go.Proofs.MemK Go.Proofs.UtfK
theorem zkK : prog.globalNamed "strconv.ErrSyntax" = some 3 := by kernel_rfl
theorem zrz:(prog.globals[3]?).map (·.type)=some 270 := by kernel_rfl
theorem zrA:prog.cellsOf 297 = 1:=by kernel_rfl
theorem zrB:prog.cellsOf 9 = 1:=by kernel_rfl
theorem zkL : "*" ++ "errors.errorString" = "*errors.errorString" := by decide
theorem zrC (u : TypeId) (h : prog.typeName? 3 u = some "*errors.errorString") : u = 295 :=
 typeName_ptr_named (nm := "errors.errorString") (by rw [zkL]; kernel_rfl) Kr De u (by rw [zkL]; exact h)
theorem zdn {W : World} {r : List (String × DataW Unit)} (h : laidMet prog (("strconv.ErrSyntax", Rows.laid_strconv_ErrSyntax) :: r) W) : zD W := by
 obtain ⟨a0,s0,k7,cF,ip,bO⟩:=laid_sentinel h zkK zrz underlying270 zrC underlying295 underlying297 rfl rfl underlying9 zrA zrB
 exact ⟨_,by simpa using World.var?_cell zkK k7 0,.inr ⟨_,_,rfl⟩⟩
end Go.Proofs.YtijglbolppkefaaGreatDoor
