/- The code's Int, and Less, for every text. -/
import Derived.Test.YtdmjnfadhlgpkaaGreatDoorFoldC
namespace Go.Proofs.YtdmjnfadhlgpkaaGreatDoor
open Go Go.RowKit Go.Proofs.BerK Go.Proofs.MemK Go.Proofs.UtfK

/-- Byte by byte, as the model has it. -/
theorem less_ltB : ∀ (x y : List UInt8), Op.bytesLess x y = ltB x y
  | x, [] => by cases x <;> simp [Op.bytesLess, ltB]
  | [], _ :: _ => by simp [Op.bytesLess, ltB]
  | a :: x, b :: y => by
    rw [Op.bytesLess, less_ltB x y, ltB, ltB, Bool.eq_iff_iff]
    simp only [Bool.or_eq_true, Bool.and_eq_true, decide_eq_true_eq, beq_iff_eq, List.cons_lt_cons_iff]

/-! ### Int -/
theorem intL_bad (l : List UInt8) (h : okD (digs l) = false) : intL l = ([], false) := by rw [intL, intOk_okD, if_pos h]
theorem okD_ne (l : List UInt8) (h : okD l = true) : l ≠ [] ∧ l.length ≤ 32 := by
  simp only [okD, Bool.and_eq_true, decide_eq_true_eq] at h
  refine ⟨?_, h.1.2⟩
  rintro rfl
  simp at h
theorem intL_zero (l : List UInt8) (h : okD (digs l) = true) (ht : tz (digs l) = []) : intL l = ([48], true) := by
  rw [intL, intOk_okD, if_neg (by simp [h]), strip_tz _ (okD_ne _ h).1, if_pos ht, if_pos rfl]
theorem intL_num (l : List UInt8) (h : okD (digs l) = true) (ht : tz (digs l) ≠ []) : intL l = ((if hasM l = true then [45] else []) ++ tz (digs l), true) := by
  rw [intL, intOk_okD, if_neg (by simp [h]), strip_tz _ (okD_ne _ h).1, if_neg ht, if_neg (tz_not _)]
  by_cases hm : l.head? = some 45 <;> simp [hasM, hm]
def IntPost (l : List UInt8) (w : World) (en : Ending) (w' : World) : Prop := en = .returned (.tuple #[.string ⟨(intL l).1.toArray⟩, .bool (intL l).2]) ∧ Below w.heap.size w w'
theorem intPost_mk {l a : List UInt8} {b : Bool} {w w' : World} (h : intL l = (a, b)) (hb : Below w.heap.size w w') : IntPost l w (.returned (.tuple #[.string ⟨a.toArray⟩, .bool b])) w' := by
  refine ⟨?_, hb⟩
  rw [h]

end Go.Proofs.YtdmjnfadhlgpkaaGreatDoor
