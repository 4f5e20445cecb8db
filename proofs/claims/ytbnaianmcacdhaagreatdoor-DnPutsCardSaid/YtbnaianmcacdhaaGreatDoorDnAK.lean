/- A name that came in as an argument lies in memory as a list of lists of pairs. -/
import Derived.Test.YtbnaianmcacdhaaGreatDoorDnF
import Derived.Deep.SlicePairs
import Derived.WalkKit
import Derived.ProofKit
import Derived.OpenShut
import Derived.ShutString
import Derived.Carry
namespace Go.Proofs.YtbnaianmcacdhaaGreatDoor
set_option linter.unusedSimpArgs false
set_option linter.unusedVariables false
open Go Go.ChangeShapes Go.WideShapes Go.RowKit Go.Proofs.MemK

theorem dn_c40 : Tryz.prog.cellsOf 40 = 2 := by kernel_rfl
theorem dn_c38 : Tryz.prog.cellsOf 38 = 1 := by kernel_rfl
theorem dn_c9 : Tryz.prog.cellsOf 9 = 1 := by kernel_rfl
theorem avAt_arg {H : Type} {enc : TypeId × Value → H} {w : World} {n : Nat} {v : Value} {x : DataW H × List MemPlace}
    (h : DataW.trod enc Tryz.prog w 0 (fun _ => true) true n 38 [v] = some x) : ∃ r : List Av, AvAt w v r ∧ r.length ≤ maxLen := by
  rcases Deep.open_slice_pairs Tryz.underlying38 Tryz.underlying40 dn_c40 rfl rfl dn_c9 dn_c9 h with ⟨hcs, _⟩ | ⟨a, len, cap, m, k, V0, V1, D0, D1, P0, P1, hcs, _, hl, hm, hmm, _, hx⟩
  · injection hcs with hv _
    subst hv
    exact ⟨[], ⟨none, 0, rfl, Nat.le_refl _, fun i hi => by simp at hi⟩, by decide⟩
  · injection hcs with hv _
    subst hv
    simp only [if_true] at hmm
    subst hmm
    obtain ⟨q, hq⟩ := Deep.choose_lt (α := ByteArray × ByteArray) (n := m) (p := fun i q => V0 i = .string q.1 ∧ V1 i = .string q.2) (fun i hi => by
      obtain ⟨s0, e0, _⟩ := DataW.trod_string Tryz.underlying9 (hx i hi).2.2.1
      obtain ⟨s1, e1, _⟩ := DataW.trod_string Tryz.underlying9 (hx i hi).2.2.2
      exact ⟨(s0, s1), by simpa using e0, by simpa using e1⟩)
    have hlen : ((List.range len).map fun i => ((q i).1.data.toList, (q i).2.data.toList)).length = len := by simp
    refine ⟨(List.range len).map fun i => ((q i).1.data.toList, (q i).2.data.toList), ⟨some a, m, by rw [hlen], by rw [hlen]; omega, fun i hi => ?_⟩, by rw [hlen]; omega⟩
    rw [hlen] at hi
    obtain ⟨b, off, spot⟩ := a
    have hspot : spot = none := by simpa [Addr.add] using World.cell?_spot (hx 0 (by omega)).1
    subst hspot
    obtain ⟨x0, x1, _, _⟩ := hx i (by omega)
    obtain ⟨y0, y1⟩ := hq i (by omega)
    rw [y0] at x0
    rw [y1] at x1
    have z0 : w.cell? ⟨b, off + i * 2, none⟩ = some (.string (q i).1) := by rw [← add_plain]; exact x0
    have z1 : w.cell? ⟨b, off + i * 2 + 1, none⟩ = some (.string (q i).2) := by rw [Nat.add_assoc, ← add_plain]; exact x1
    refine ⟨b, off, rfl, World.block_lt_of_cell? w _ z0, ?_, ?_⟩
    · rw [z0]; simp
    · rw [z1]; simp
theorem dnAt_arg {H : Type} {enc : TypeId × Value → H} {w : World} {a0 : Option Addr} {len cap : Nat} {d : DataW H} {ps : List MemPlace}
    (h : DataW.Trod enc Tryz.prog w 0 (fun _ => true) true 23 (.slice a0 len cap) d ps) : ∃ D : List (List Av), D.length = len ∧ DnAt w (.slice a0 len cap) D ∧ len ≤ maxLen := by
  obtain ⟨fuel, hf⟩ := h
  rcases Deep.open_slice1 Tryz.underlying23 dn_c38 hf with ⟨hcs, _⟩ | ⟨a, len', cap', m, k, V, D, Pl, hcs, _, hl, hm, hmm, _, hx⟩
  · simp [Value.cells] at hcs
    obtain ⟨rfl, rfl, rfl⟩ := hcs
    exact ⟨[], rfl, ⟨none, 0, rfl, Nat.le_refl _, fun i hi => by simp at hi⟩, by decide⟩
  · simp [Value.cells] at hcs
    obtain ⟨rfl, rfl, rfl⟩ := hcs
    simp only [if_true] at hmm
    subst hmm
    obtain ⟨R, hR⟩ := Deep.choose_lt (α := List Av) (n := m) (p := fun i r => AvAt w (V i) r) (fun i hi => by
      obtain ⟨r, hr, _⟩ := avAt_arg (hx i hi).2
      exact ⟨r, hr⟩)
    have hlen : ((List.range len).map R).length = len := by simp
    refine ⟨(List.range len).map R, hlen, ⟨some a, m, by rw [hlen], by rw [hlen]; exact hl, fun i hi => ?_⟩, by omega⟩
    rw [hlen] at hi
    obtain ⟨b, off, spot⟩ := a
    have hspot : spot = none := by simpa [Addr.add] using World.cell?_spot (hx 0 (by omega)).1
    subst hspot
    have x0 := (hx i (by omega)).1
    have z0 : w.cell? ⟨b, off + i, none⟩ = some (V i) := by rw [← add_plain]; exact x0
    refine ⟨b, off, V i, rfl, World.block_lt_of_cell? w _ z0, z0, ?_⟩
    have := hR i (by omega)
    simpa using this
end Go.Proofs.YtbnaianmcacdhaaGreatDoor
