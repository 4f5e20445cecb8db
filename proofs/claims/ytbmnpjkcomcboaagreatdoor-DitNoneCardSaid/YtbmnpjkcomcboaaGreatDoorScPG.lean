/- Plain facts: names put one by one among rising ones; an entry as the document checks it. The document's names of all types, rising. -/
import Derived.Test.YtbmnpjkcomcboaaGreatDoorSnNT
import Derived.Test.YtbmnpjkcomcboaaGreatDoorSnUW
import Derived.Test.YtbmnpjkcomcboaaGreatDoorScAD
namespace Go.Proofs.YtbmnpjkcomcboaaGreatDoor
set_option linter.unusedSimpArgs false
set_option linter.unusedVariables false
open Go Go.Sort

end Go.Proofs.YtbmnpjkcomcboaaGreatDoor
namespace Go.Proofs.YtbmnpjkcomcboaaGreatDoor
set_option linter.unusedSimpArgs false
set_option linter.unusedVariables false
open Go Go.RowKit Go.Proofs.BerK Go.Proofs.MemK Go.Proofs.UtfK

theorem tw_lt {α : Type} (p : α → Bool) : ∀ (l : List α) (k : Nat) (h : k < (l.takeWhile p).length) (hk : k < l.length), p l[k] = true := by
  intro l
  induction l with
  | nil => intro k h hk; simp at hk
  | cons x l ih =>
    intro k h hk
    cases hx : p x
    · simp [List.takeWhile, hx] at h
    · cases k with
      | zero => simpa using hx
      | succ k =>
        simp only [List.takeWhile, hx, List.length_cons] at h
        simpa using ih k (by omega) (by simpa using hk)
theorem tw_le {α : Type} (p : α → Bool) (l : List α) : (l.takeWhile p).length ≤ l.length := by
  induction l with
  | nil => simp
  | cons x l ih => cases hx : p x <;> simp [List.takeWhile, hx]; exact ih
theorem tw_at {α : Type} (p : α → Bool) : ∀ (l : List α) (hk : (l.takeWhile p).length < l.length), p l[(l.takeWhile p).length] = false := by
  intro l
  induction l with
  | nil => intro h; simp at h
  | cons x l ih =>
    intro hk
    cases hx : p x
    · simp [List.takeWhile, hx]
    · have h2 : (l.takeWhile p).length < l.length := by simpa [List.takeWhile, hx] using hk
      have := ih h2
      simp only [List.takeWhile, hx, List.length_cons, List.getElem_cons_succ]
      exact this
end Go.Proofs.YtbmnpjkcomcboaaGreatDoor
