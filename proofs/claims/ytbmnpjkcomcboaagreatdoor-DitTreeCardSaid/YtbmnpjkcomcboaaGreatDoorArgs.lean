/- Rows of texts and of bytes that came in as arguments lie in memory as lists. -/
import Derived.Test.YtbmnpjkcomcboaaGreatDoorGenA
import Derived.WalkKit
import Derived.ProofKit
import Derived.OpenShut
import Derived.ShutString
import Derived.SliceStrings
import Derived.Carry
namespace Go.Proofs.MemK
open Go Go.ChangeShapes Go.WideShapes Go.RowKit

theorem strAt_arg {H : Type} {enc : TypeId × Value → H} {P : Program} {w : World} {t e : TypeId} {a0 : Option Addr} {len cap : Nat} {d : DataW H} {ps : List MemPlace} (ht : P.underlying t = some (.slice e)) (he : P.underlying e = some .string) (hc : P.cellsOf e = 1)
    (h : DataW.Trod enc P w 0 (fun _ => true) true t (.slice a0 len cap) d ps) : ∃ l : List (List UInt8), l.length = len ∧ StrAt w (.slice a0 len cap) l ∧ (∀ x ∈ l, x.length ≤ maxLen) ∧ len ≤ maxLen := by
  obtain ⟨fuel, hf⟩ := h
  rcases open_strings ht he hc hf with ⟨hcs, _⟩ | ⟨a, len', cap', ss, hcs, _, hl, hm, hz, _, hcell, hws⟩
  · simp [Value.cells] at hcs
    obtain ⟨rfl, rfl, rfl⟩ := hcs
    exact ⟨[], rfl, .inl ⟨rfl, none, 0, rfl⟩, by simp, by decide⟩
  · simp [Value.cells] at hcs
    obtain ⟨rfl, rfl, rfl⟩ := hcs
    simp only [if_true] at hz
    have hlen : ((ss.take len).map fun s => s.data.toList).length = len := by simp; omega
    refine ⟨(ss.take len).map fun s => s.data.toList, hlen, ?_, ?_, by omega⟩
    · by_cases h0 : len = 0
      · subst h0
        exact .inl ⟨by simp, _, _, rfl⟩
      · obtain ⟨b, off, spot⟩ := a
        have hspot : spot = none := by simpa [Addr.add] using World.cell?_spot (hcell 0 (by omega))
        subst hspot
        refine .inr ⟨by omega, b, off, cap, by rw [hlen], World.block_lt_of_cell? w _ (hcell 0 (by omega)), fun i hi => ?_⟩
        rw [hlen] at hi
        rw [← add_plain, hcell i (by omega)]
        have hi2 : i < ss.length := by omega
        simp [List.getD, hi2]
    · intro x hx
      obtain ⟨s, hs, rfl⟩ := List.mem_map.1 hx
      exact hws s (List.mem_of_mem_take hs)

end Go.Proofs.MemK
