/- The code's Norm, Equal and Order, for every value. The code's Equal and Order, for every two values. -/
import Derived.Test.YtbihhdkmmlldnaaGreatDoorDqI
import Derived.Test.YtbihhdkmmlldnaaGreatDoorFoldAE
import Derived.Test.YtbihhdkmmlldnaaGreatDoorPlnA
namespace Go.Proofs.YtbihhdkmmlldnaaGreatDoor
set_option linter.unusedSimpArgs false
set_option linter.unusedVariables false
open Go Go.RowKit Go.Proofs.BerK Go.Proofs.MemK Go.Proofs.UtfK

/-- A value as it counts, and whether it may be. -/
def ruN (r : Int) (s : List UInt8) : List UInt8 × Bool :=
  if 4096 < s.length then ([], false) else
  if r = 1 then (foldL s, !(foldL s).isEmpty) else
  if r = 2 then (blL s, !(blL s).isEmpty) else
  if r = 3 then intL s else
  if r = 4 then (s, true) else
  if r = 5 then ((noD s).1, decide ((noD s).2 = 0)) else ([], false)
theorem ruN_long {r : Int} {s : List UInt8} (h : 4096 < s.length) : ruN r s = ([], false) := by unfold ruN; rw [if_pos h]
theorem ruN_1 {s : List UInt8} (h : ¬ 4096 < s.length) : ruN 1 s = (foldL s, !(foldL s).isEmpty) := by unfold ruN; rw [if_neg h, if_pos rfl]
theorem ruN_2 {s : List UInt8} (h : ¬ 4096 < s.length) : ruN 2 s = (blL s, !(blL s).isEmpty) := by unfold ruN; rw [if_neg h, if_neg (by decide), if_pos rfl]
theorem ruN_3 {s : List UInt8} (h : ¬ 4096 < s.length) : ruN 3 s = intL s := by unfold ruN; rw [if_neg h, if_neg (by decide), if_neg (by decide), if_pos rfl]
theorem ruN_4 {s : List UInt8} (h : ¬ 4096 < s.length) : ruN 4 s = (s, true) := by unfold ruN; rw [if_neg h, if_neg (by decide), if_neg (by decide), if_neg (by decide), if_pos rfl]
theorem ruN_5 {s : List UInt8} (h : ¬ 4096 < s.length) : ruN 5 s = ((noD s).1, decide ((noD s).2 = 0)) := by unfold ruN; rw [if_neg h, if_neg (by decide), if_neg (by decide), if_neg (by decide), if_neg (by decide), if_pos rfl]
theorem ruN_no {r : Int} {s : List UInt8} (h1 : r ≠ 1) (h2 : r ≠ 2) (h3 : r ≠ 3) (h4 : r ≠ 4) (h5 : r ≠ 5) : ruN r s = ([], false) := by
  unfold ruN
  by_cases h : 4096 < s.length
  · rw [if_pos h]
  · rw [if_neg h, if_neg h1, if_neg h2, if_neg h3, if_neg h4, if_neg h5]
def NbPost (p : List UInt8 × Bool) (w : World) (en : Ending) (w' : World) : Prop := en = .returned (.tuple #[.string ⟨p.1.toArray⟩, .bool p.2]) ∧ Below w.heap.size w w'
theorem nbPost_mk {p : List UInt8 × Bool} {a : List UInt8} {b : Bool} {w w' : World} (h : p = (a, b)) (hb : Below w.heap.size w w') : NbPost p w (.returned (.tuple #[.string ⟨a.toArray⟩, .bool b])) w' := by subst h; exact ⟨rfl, hb⟩
theorem ru_ne {l : List UInt8} (h : l ≠ []) : l.isEmpty = false := by cases l <;> simp_all
theorem ru_len (r : Int) (s : List UInt8) : (ruN r s).1.length ≤ 4096 := by
  unfold ruN
  split
  · simp
  · rename_i h
    split
    · have := foldL_length s; simp; omega
    · split
      · have := blL_length s; simp; omega
      · split
        · unfold intL
          split
          · simp
          · split
            · simp
            · rename_i h1 h2
              have hok : intOk s = true := by simpa using h1
              unfold intOk at hok
              simp only [Bool.and_eq_true, decide_eq_true_eq] at hok
              have := (strip_can (digs s) hok.1.1 hok.1.2 hok.2).1
              simp only [List.length_append]
              split <;> simp <;> omega
        · split
          · simp; omega
          · split
            · simp only [noD]
              split
              · simp
              · unfold puD
                split
                · simp
                · split
                  · simp
                  · simp; omega
            · simp
end Go.Proofs.YtbihhdkmmlldnaaGreatDoor
namespace Go.Proofs.YtbihhdkmmlldnaaGreatDoor
set_option linter.unusedSimpArgs false
set_option linter.unusedVariables false
open Go Go.RowKit Go.Proofs.BerK Go.Proofs.MemK Go.Proofs.UtfK

def IPost (n : Int) (w : World) (en : Ending) (w' : World) : Prop := en = .returned (.int .i64 n) ∧ Below w.heap.size w w'
theorem iPost_mk {n m : Int} {w w' : World} (h : n = m) (hb : Below w.heap.size w w') : IPost n w (.returned (.int .i64 m)) w' := by subst h; exact ⟨rfl, hb⟩
theorem pureI_mkR {n m : Int} {w : World} (h : n = m) : PureI n w (.returned (.int .i64 m)) w := by subst h; exact ⟨rfl, rfl⟩
def BothPost (p q : List UInt8 × Bool) (w : World) (en : Ending) (w' : World) : Prop := en = .returned (.tuple #[.string ⟨p.1.toArray⟩, .string ⟨q.1.toArray⟩, .bool (p.2 && q.2)]) ∧ Below w.heap.size w w'
theorem bothPost_mk {p q : List UInt8 × Bool} {a b : List UInt8} {c : Bool} {w w' : World} (h1 : p.1 = a) (h2 : q.1 = b) (h3 : (p.2 && q.2) = c) (hb : Below w.heap.size w w') : BothPost p q w (.returned (.tuple #[.string ⟨a.toArray⟩, .string ⟨b.toArray⟩, .bool c])) w' := by subst h1 h2 h3; exact ⟨rfl, hb⟩
end Go.Proofs.YtbihhdkmmlldnaaGreatDoor
