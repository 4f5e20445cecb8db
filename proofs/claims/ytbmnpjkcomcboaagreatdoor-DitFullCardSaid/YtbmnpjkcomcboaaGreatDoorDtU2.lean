/- A short whole number that came in as an argument. -/
import Derived.OpenShut
namespace Go.Proofs.YtbmnpjkcomcboaaGreatDoor
open Go Go.ChangeShapes Go.WideShapes Go.RowKit
theorem u16_arg {a : Int} (h : (Lit.int .u16 a).wf = true) : ∃ n : Nat, a = (n : Int) ∧ n < 65536 := by
  have := bounds_u16 h
  exact ⟨a.toNat, by omega, by omega⟩
end Go.Proofs.YtbmnpjkcomcboaaGreatDoor
