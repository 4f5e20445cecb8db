/- The code's Types: the names of a schema's types, rising. The law's own person. The law's own given values come out as said. -/
import Derived.Test.YtbmnpjkcomcboaaGreatDoorLaysA
import Derived.Test.YtbmnpjkcomcboaaGreatDoorSnAL
import Derived.Sort.KeysCollected
import Derived.Test.YtbmnpjkcomcboaaGreatDoorSnNT
namespace Go.Proofs.YtbmnpjkcomcboaaGreatDoor
set_option linter.unusedSimpArgs false
set_option linter.unusedVariables false
open Go Go.RowKit Go.Proofs.BerK Go.Proofs.MemK Go.Proofs.UtfK Go.Maps Go.Sort Go.Shelf

def risL (N : List (List UInt8)) : List (List UInt8) := N.mergeSort (fun x y => decide (x ≤ y))
end Go.Proofs.YtbmnpjkcomcboaaGreatDoor
namespace Go.Proofs.YtbmnpjkcomcboaaGreatDoor
set_option linter.unusedSimpArgs false
set_option linter.unusedVariables false
open Go Go.RowKit Go.Proofs.BerK Go.Proofs.MemK Go.Proofs.UtfK

def atcs (L : List (List UInt8 × Value)) : List Value := L.flatMap fun q => [.string ⟨q.1.toArray⟩, q.2]
theorem atcs_at : ∀ (L : List (List UInt8 × Value)) (i : Nat) (h : i < L.length), (atcs L)[i * 2]? = some (.string ⟨L[i].1.toArray⟩) ∧ (atcs L)[i * 2 + 1]? = some L[i].2 := by
  intro L
  induction L with
  | nil => intro i h; simp at h
  | cons c L ih =>
    intro i h
    have e : atcs (c :: L) = .string ⟨c.1.toArray⟩ :: c.2 :: atcs L := rfl
    cases i with
    | zero => rw [e]; exact ⟨rfl, rfl⟩
    | succ i =>
      have := ih i (by simpa using h)
      rw [e, show (i + 1) * 2 = i * 2 + 1 + 1 by omega]
      simpa using this
end Go.Proofs.YtbmnpjkcomcboaaGreatDoor
namespace Go.Proofs.YtbmnpjkcomcboaaGreatDoor
set_option linter.unusedSimpArgs false
set_option linter.unusedVariables false
open Go Go.RowKit Go.Proofs.BerK Go.Proofs.MemK Go.Proofs.UtfK

theorem plT_lowT : LowT plT := by have := lowT_map plT; rwa [plT_low] at this
theorem plC_lowC : LowC plC := by have := lowC_map plC; rwa [plC_low] at this
theorem Tryz.sninfo81 : (Tryz.prog.info? 81).map (fun i => (i.zero, i.size, i.bytes)) = some (some (.agg #[.string ByteArray.empty, .slice none 0 0]), 2, 40) := by kernel_rfl
end Go.Proofs.YtbmnpjkcomcboaaGreatDoor
