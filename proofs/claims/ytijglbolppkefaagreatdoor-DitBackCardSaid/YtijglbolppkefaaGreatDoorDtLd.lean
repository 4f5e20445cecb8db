/- The library's error lies as its. -/
import Derived.Test.YtijglbolppkefaaGreatDoorDnLd
set_option linter.unusedVariables false
set_option linter.unusedSimpArgs false
set_option maxHeartbeats 25600000
set_option maxRecDepth 100000
namespace Go.Proofs.YtijglbolppkefaaGreatDoor
open Go.Proofs.Tryz
open Go Go.RowKit Go.Proofs.BerK Go.Proofs.MemK Go.Proofs.UtfK
variable {W : World}
theorem zmJ {p:Prop} (h:p:=by
 rw [MakeChecks.laidMetH_plain _ _ _ Kr] at h
 first
  | exact zdn h
  | exact zdn h.tail
  | exact zdn h.tail.tail
  | exact zdn h.tail.tail.tail
  | exact zdn h.tail.tail.tail.tail
  | exact zdn h.tail.tail.tail.tail.tail
  | exact zdn h.tail.tail.tail.tail.tail.tail
  | exact zdn h.tail.tail.tail.tail.tail.tail.tail):p:=h
theorem errOk_dp (h:laidMetH prog Rows.ditPlaysRow.laid W):zD W:=by
 exact zmJ
theorem errOk_db (h:laidMetH prog Rows.ditBackRow.laid W):zD W:=by
 exact zmJ
end Go.Proofs.YtijglbolppkefaaGreatDoor
