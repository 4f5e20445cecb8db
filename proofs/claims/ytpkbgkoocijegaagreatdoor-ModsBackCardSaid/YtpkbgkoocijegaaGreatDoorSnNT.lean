/- The code's norms: the values of attributes as they count. The code's namesOf and hasTwice: the places of types' names; whether two values are the same. The code's hasTwice, hasTooMany, and whether an attribute has no values. The code's of: the classes that values name. The code's slices.Contains of truths; fits, plainly. The code's fits: whether attributes are such as the classes that they name have. The code's Check: whether an entry may be. -/
import Derived.Test.YtpkbgkoocijegaaGreatDoorSnAL
import Derived.Test.YtpkbgkoocijegaaGreatDoorRuAD
import Derived.Test.YtpkbgkoocijegaaGreatDoorScAD
namespace Go.Proofs.YtpkbgkoocijegaaGreatDoor
set_option linter.unusedSimpArgs false
set_option linter.unusedVariables false
open Go Go.RowKit Go.Proofs.BerK Go.Proofs.MemK Go.Proofs.UtfK

theorem Tryz.sninfo43 : (Tryz.prog.info? 43).map (fun i => (i.zero, i.size, i.bytes)) = some (some (.slice none 0 0), 1, 24) := by kernel_rfl
theorem made_gr (n : Nat) (W : World) (hn : n ≤ 1000000) : (Instr.makeSlice 161 (.int .i64 (n : Int)) (.int .i64 (n : Int))).run Tryz.prog W = .ok (.slice (some ⟨W.heap.size, 0, none⟩) n n) (W.alloc (.cells (List.replicate n (Value.slice none 0 0)).toArray 43)) := by
  obtain ⟨i0, hi, hz0, hz1, hz2⟩ := info_parts Tryz.sninfo43
  have h := run_make (P := Tryz.prog) W 161 43 i0 (.slice none 0 0) Tryz.underlying161 hi hz0 .i64 .i64 (n : Int) (n : Int) (by omega) (by omega) (by rw [hz2]; omega) (by omega)
  have e : madeCells (Value.slice none 0 0).cells ((n : Int).toNat * i0.size) = (List.replicate n (Value.slice none 0 0)).toArray := by
    apply Array.ext'
    rw [hz1, show (n : Int).toNat * 1 = n by omega]
    exact (toList_madeCells_one _ n).trans (by simp)
  rw [e] at h
  simpa using h
end Go.Proofs.YtpkbgkoocijegaaGreatDoor
namespace Go.Proofs.YtpkbgkoocijegaaGreatDoor
set_option linter.unusedSimpArgs false
set_option linter.unusedVariables false
open Go Go.RowKit Go.Proofs.BerK Go.Proofs.MemK Go.Proofs.UtfK

end Go.Proofs.YtpkbgkoocijegaaGreatDoor
namespace Go.Proofs.YtpkbgkoocijegaaGreatDoor
set_option linter.unusedSimpArgs false
set_option linter.unusedVariables false
open Go Go.RowKit Go.Proofs.BerK Go.Proofs.MemK Go.Proofs.UtfK

end Go.Proofs.YtpkbgkoocijegaaGreatDoor
namespace Go.Proofs.YtpkbgkoocijegaaGreatDoor
set_option linter.unusedSimpArgs false
set_option linter.unusedVariables false
open Go Go.RowKit Go.Proofs.BerK Go.Proofs.MemK Go.Proofs.UtfK

end Go.Proofs.YtpkbgkoocijegaaGreatDoor
namespace Go.Proofs.YtpkbgkoocijegaaGreatDoor
set_option linter.unusedSimpArgs false
set_option linter.unusedVariables false
open Go Go.RowKit Go.Proofs.BerK Go.Proofs.MemK Go.Proofs.UtfK

end Go.Proofs.YtpkbgkoocijegaaGreatDoor
namespace Go.Proofs.YtpkbgkoocijegaaGreatDoor
set_option linter.unusedSimpArgs false
set_option linter.unusedVariables false
open Go Go.RowKit Go.Proofs.BerK Go.Proofs.MemK Go.Proofs.UtfK

end Go.Proofs.YtpkbgkoocijegaaGreatDoor
namespace Go.Proofs.YtpkbgkoocijegaaGreatDoor
set_option linter.unusedSimpArgs false
set_option linter.unusedVariables false
open Go Go.RowKit Go.Proofs.BerK Go.Proofs.MemK Go.Proofs.UtfK

end Go.Proofs.YtpkbgkoocijegaaGreatDoor
