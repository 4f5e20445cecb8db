/- The document's class of a name. Whether types and classes may be: the document's check. -/
import Derived.Test.YtjbdldbjefmnjaaGreatDoorScAB
namespace Go.Proofs.YtjbdldbjefmnjaaGreatDoor
set_option linter.unusedSimpArgs false
set_option linter.unusedVariables false
open Go Go.RowKit Go.Proofs.BerK Go.Proofs.MemK Go.Proofs.UtfK

def ClPost (o : Option Cl) (w : World) (en : Ending) (w' : World) : Prop :=
  (o = none ∧ en = .returned (.tuple #[.agg #[.string ⟨#[]⟩, .slice none 0 0, .slice none 0 0], .bool false]) ∧ Below w.heap.size w w') ∨
  (∃ c, o = some c ∧ ∃ am cm ay cy, en = .returned (.tuple #[.agg #[.string ⟨c.1.toArray⟩, .slice am c.2.1.length cm, .slice ay c.2.2.length cy], .bool true]) ∧ TxR w' (.slice am c.2.1.length cm) c.2.1 ∧ TxR w' (.slice ay c.2.2.length cy) c.2.2 ∧ Below w.heap.size w w')
end Go.Proofs.YtjbdldbjefmnjaaGreatDoor
namespace Go.Proofs.YtjbdldbjefmnjaaGreatDoor
set_option linter.unusedSimpArgs false
set_option linter.unusedVariables false
open Go Go.RowKit Go.Proofs.BerK Go.Proofs.MemK Go.Proofs.UtfK

def ScI (n : Int) (w : World) (en : Ending) (w' : World) : Prop := en = .returned (.int .i64 n) ∧ Below w.heap.size w w'
theorem scI_mk {n m : Int} {w w' : World} (h : n = m) (hb : Below w.heap.size w w') : ScI n w (.returned (.int .i64 m)) w' := by subst h; exact ⟨rfl, hb⟩
theorem sc9_snoc {N : List (List UInt8)} (k : Nat) (hk : k < N.length) : sc (N.take (k + 1)) = sc (N.take k) ++ [.string ⟨N[k].toArray⟩] := by
  rw [List.take_succ_eq_append_getElem hk]
  unfold sc
  rw [List.map_append]; rfl
end Go.Proofs.YtjbdldbjefmnjaaGreatDoor
