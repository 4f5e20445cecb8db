/- The given texts, read and put plainly. -/
import Derived.Test.YtlopmppiihhnnaaGreatDoorDnAE
namespace Go.Proofs.YtlopmppiihhnnaaGreatDoor
set_option linter.unusedSimpArgs false
set_option linter.unusedVariables false
open Go Go.RowKit Go.Proofs.BerK Go.Proofs.MemK Go.Proofs.UtfK

theorem lit_rd1 : rdD [67, 78, 32, 61, 32, 65, 108, 32, 32, 75, 111, 32, 44, 32, 68, 67, 61, 120] = ([[([67, 78], [65, 108, 32, 32, 75, 111])], [([68, 67], [120])]], 0) := by decide +kernel
theorem lit_no1 : noD [67, 78, 32, 61, 32, 65, 108, 32, 32, 75, 111, 32, 44, 32, 68, 67, 61, 120] = ([99, 110, 61, 97, 108, 32, 107, 111, 44, 100, 99, 61, 120], 0) := by
  rw [noD_ok lit_rd1]
  have e : ([[([67, 78], [65, 108, 32, 32, 75, 111])], [([68, 67], [120])]] : List (List Av)).map nmR = [[([99, 110], [97, 108, 32, 107, 111])], [([100, 99], [120])]] := by
    simp only [List.map_cons, List.map_nil, nmR, srtR_one]
    decide +kernel
  rw [e]
  decide +kernel
theorem lit_rd2 : rdD [97, 61, 92, 35, 98, 92, 50, 99, 43, 99, 61, 100, 92, 32] = ([[([97], [35, 98, 44]), ([99], [100, 32])]], 0) := by decide +kernel
theorem lit_pu2 : puD [[([97], [35, 98, 44]), ([99], [100, 32])]] = ([97, 61, 92, 35, 98, 92, 44, 43, 99, 61, 100, 92, 32], 0) := by decide +kernel
theorem lit_rd3 : rdD [97, 61, 98, 44] = ([], 5) := by decide +kernel
theorem lit_rd4 : rdD [97, 61, 49, 43, 65, 61, 50] = ([], 5) := by decide +kernel
theorem lit_rd5 : rdD [] = ([], 0) := by decide +kernel
theorem lit_es : esL [32] = [92, 32] := by decide +kernel
end Go.Proofs.YtlopmppiihhnnaaGreatDoor
