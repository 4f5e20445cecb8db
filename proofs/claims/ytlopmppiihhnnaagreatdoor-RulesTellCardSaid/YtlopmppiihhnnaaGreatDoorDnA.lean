/- Single bytes, and types, on both sides. -/
import Derived.Test.YtlopmppiihhnnaaGreatDoorFoldA
import Derived.Test.YtlopmppiihhnnaaGreatDoorFoldCE
import Derived.Test.YtlopmppiihhnnaaGreatDoorDnM
import Derived.Lib.Bytealg
import Derived.Lib.Walk
namespace Go.Proofs.YtlopmppiihhnnaaGreatDoor
set_option linter.unusedSimpArgs false
set_option linter.unusedVariables false
open Go Go.RowKit Go.Proofs.BerK Go.Proofs.MemK Go.Proofs.UtfK

def PureB (b : Bool) (w : World) (en : Ending) (w' : World) : Prop := en = .returned (.bool b) ∧ w' = w
theorem pureB_mk {a b : Bool} {w : World} (h : b = a) : PureB b w (.returned (.bool a)) w := by subst h; exact ⟨rfl, rfl⟩

set_option maxHeartbeats 400000 in
theorem dlet_any (c : Nat) (w : World) : Calls Tryz.prog 124 #[.int .u8 (c : Nat)] w (PureB (letN c) w) := by
  go_enter Tryz.func124, Tryz.ntmps124
  go_wp2
  all_goals (go_ret; refine pureB_mk ?_; rw [Bool.eq_iff_iff]; simp only [letN, Bool.or_eq_true, Bool.and_eq_true, decide_eq_true_eq, beq_iff_eq, Bool.false_eq_true, iff_false, iff_true] <;> omega)
set_option maxHeartbeats 400000 in
theorem dbare_any (c : Nat) (w : World) : Calls Tryz.prog 93 #[.int .u8 (c : Nat)] w (PureB (bareN c) w) := by
  go_enter Tryz.func93, Tryz.ntmps93
  go_wp2
  all_goals (go_ret; refine pureB_mk ?_; rw [Bool.eq_iff_iff]; simp only [bareN, Bool.or_eq_true, Bool.and_eq_true, decide_eq_true_eq, beq_iff_eq, Bool.false_eq_true, iff_false, iff_true] <;> omega)
set_option maxHeartbeats 400000 in
theorem rspec_any (c : Nat) (w : World) : Calls Tryz.prog 114 #[.int .u8 (c : Nat)] w (PureB (spN c) w) := by
  go_enter Tryz.func114, Tryz.ntmps114
  go_wp2
  all_goals (go_ret; refine pureB_mk ?_; rw [Bool.eq_iff_iff]; simp only [spN, Bool.or_eq_true, Bool.and_eq_true, decide_eq_true_eq, beq_iff_eq, Bool.false_eq_true, iff_false, iff_true] <;> omega)

/-! ### strings.IndexByte -/
def PureI (n : Int) (w : World) (en : Ending) (w' : World) : Prop := en = .returned (.int .i64 n) ∧ w' = w
set_option maxHeartbeats 1000000 in
set_option maxRecDepth 100000 in
theorem slidx_any (s : ByteArray) (c : Int) (w : World) : Calls Tryz.prog 116 #[.string s, .int .u8 c] w (PureI (Lib.indexByte s.data.toList c.toNat.toUInt8) w) := by
  go_enter Tryz.func116, Tryz.ntmps116
  go_wp2
  rw [run_callFunc_extern Tryz.func129 (by kernel_rfl) (by kernel_rfl) (by kernel_rfl) (e := Extern.BytealgIndexByte.indexByte) (by kernel_rfl), Lib.run_indexByteString]
  simp only [Result.andThen]
  rw [Oper.upon_value]
  go_wp2
  go_ret
  exact ⟨rfl, rfl⟩
set_option maxHeartbeats 400000 in
theorem sidx_any (s : ByteArray) (c : Int) (w : World) : Calls Tryz.prog 113 #[.string s, .int .u8 c] w (PureI (Lib.indexByte s.data.toList c.toNat.toUInt8) w) := by
  go_enter Tryz.func113, Tryz.ntmps113
  go_wp2_with (go_at_call 116; refine (slidx_any _ _ _).mono ?_; rintro e w' ⟨rfl, rfl⟩)
  go_ret
  exact ⟨rfl, rfl⟩
theorem idx_sp : ∀ c : Fin 256, decide (0 ≤ Lib.indexByte [44, 43, 34, 92, 60, 62, 59, 61] (UInt8.ofNat c.val)) = spN c.val := by decide +kernel
theorem idx_may : ∀ c : Fin 256, decide (0 ≤ Lib.indexByte [44, 43, 34, 92, 60, 62, 59, 61, 32, 35] (UInt8.ofNat c.val)) = mayN c.val := by decide +kernel
end Go.Proofs.YtlopmppiihhnnaaGreatDoor
