/- Plain facts: names put one by one among rising ones; an entry as the document checks it. The document's names of all types, rising. -/
import Derived.Test.YtpkbgkoocijegaaGreatDoorSnAL
import Derived.Test.YtpkbgkoocijegaaGreatDoorRuAD
import Derived.Test.YtpkbgkoocijegaaGreatDoorScAD
import Derived.Test.YtpkbgkoocijegaaGreatDoorSnUW
set_option linter.unusedVariables false
set_option linter.unusedSimpArgs false
set_option maxHeartbeats 25600000
set_option maxRecDepth 100000
namespace Go.Proofs.YtpkbgkoocijegaaGreatDoor
open Go Go.RowKit Go.Proofs.BerK Go.Proofs.MemK Go.Proofs.UtfK
theorem tw_lt {α : Type} (p : α -> Bool) : ∀ (l : List α) (k : Nat) (h : k < (l.takeWhile p).length) (hk : k < l.length), p l[k] = true := by
 intro l
 induction l with
 | nil => intro k h hk; simp at hk
 | cons x l ih =>
  intro k h hk
  cases hx : p x
  ·simp [List.takeWhile, hx] at h
  ·cases k with
   | zero => simpa using hx
   | succ k =>
    simp only [List.takeWhile, hx, List.length_cons] at h
    simpa using ih k (by omega) (by simpa using hk)
theorem tw_le {α : Type} (p : α -> Bool) (l : List α) : (l.takeWhile p).length <= l.length := by
 induction l with
 | nil => simp
 | cons x l ih => cases hx : p x <;> simp [List.takeWhile, hx]; exact ih
theorem tw_at {α : Type} (p : α -> Bool) : ∀ (l : List α) (hk : (l.takeWhile p).length < l.length), p l[(l.takeWhile p).length] = false := by
 intro l
 induction l with
 | nil => intro h; simp at h
 | cons x l ih =>
  intro hk
  cases hx : p x
  ·simp [List.takeWhile, hx]
  ·have h2 : (l.takeWhile p).length < l.length := by simpa [List.takeWhile, hx] using hk
   have := ih h2
   simp only [List.takeWhile, hx, List.length_cons, List.getElem_cons_succ]
   exact this
theorem lt9_t {a b : List UInt8} (h : ltB a b = true) : Op.bytesLess a b = true := by rw [less_ltB]; exact h
theorem lt9_f {a b : List UInt8} (h : ltB a b = false) : Op.bytesLess a b = false := by rw [less_ltB]; exact h
theorem chg_nil9c {w w' : World} {n c : Nat} (h : Chg (fun k => some k = (Value.slice none n c).ownBlock) w w') : Below w.heap.size w w' := h.toBelow (Nat.le_refl _) (fun k _ hk => by cases hk)
end Go.Proofs.YtpkbgkoocijegaaGreatDoor
