/- Deeds that came in as arguments lie in memory as a list. -/
import Derived.Test.YtbmnpjkcomcboaaGreatDoorArgsE
import Derived.Test.YtbmnpjkcomcboaaGreatDoorDtPN
namespace Go.Proofs.YtbmnpjkcomcboaaGreatDoor
set_option linter.unusedSimpArgs false
set_option linter.unusedVariables false
open Go Go.ChangeShapes Go.WideShapes Go.RowKit Go.Proofs.MemK Go.Deep

abbrev Dd := Int × Ent
def DdAt (w : World) (v : Value) (D : List Dd) : Prop :=
  ∃ a c, v = .slice a D.length c ∧ ∀ i (hi : i < D.length), ∃ g o av, a = some ⟨g, o, none⟩ ∧ g < w.heap.size ∧ w.cell? ⟨g, o + i * 3, none⟩ = some (.int .i64 D[i].1) ∧ w.cell? ⟨g, o + i * 3 + 1, none⟩ = some (.string ⟨D[i].2.1.toArray⟩) ∧ w.cell? ⟨g, o + i * 3 + 2, none⟩ = some av ∧ EaAt w av D[i].2.2
theorem ddAt_below {w w' : World} {v : Value} {D : List Dd} (h : DdAt w v D) (hb : Below w.heap.size w w') : DdAt w' v D := by
  obtain ⟨a, c, rfl, h⟩ := h
  refine ⟨a, c, rfl, fun i hi => ?_⟩
  obtain ⟨g, o, av, h1, h2, h3, h4, h5, h6⟩ := h i hi
  exact ⟨g, o, av, h1, Nat.lt_of_lt_of_le h2 hb.size, (hb.cell (p := ⟨g, _, none⟩) h2).trans h3, (hb.cell (p := ⟨g, _, none⟩) h2).trans h4, (hb.cell (p := ⟨g, _, none⟩) h2).trans h5, eaAt_below h6 hb⟩
theorem dt_c3 : Tryz.prog.cellsOf 41 = 3 := by kernel_rfl
theorem dt_c1 : Tryz.prog.cellsOf 3 = 1 := by kernel_rfl
theorem dt_c1a : Tryz.prog.cellsOf 37 = 1 := by kernel_rfl
set_option maxRecDepth 100000 in
theorem deed_cells {H : Type} {enc : TypeId × Value → H} {w : World} {fuel : Nat} {v0 v1 v2 : Value} {x : DataW H × List MemPlace}
    (h : DataW.trod enc Tryz.prog w 0 (fun _ => true) true fuel 41 [v0, v1, v2] = some x) : ∃ (k : Int) (dn : List UInt8) (a : Option Addr) (c : Nat) (A : List Atr), v0 = .int .i64 k ∧ v1 = .string ⟨dn.toArray⟩ ∧ v2 = .slice a A.length c ∧ EaAt w (.slice a A.length c) A := by
  obtain ⟨y0, y1, n, _, _, g0, g1⟩ := trod_struct2 Tryz.underlying41 h
  simp [dt_c1, en_c2e] at g0 g1
  obtain ⟨z0, z1, m, _, _, k0, k1⟩ := trod_struct2 Tryz.underlying39 g1
  simp [en_c1, dt_c1a] at k0 k1
  obtain ⟨s0, e0, _⟩ := DataW.trod_int Tryz.underlying3 g0
  obtain ⟨s1, e1, _⟩ := DataW.trod_string Tryz.underlying9 k0
  obtain ⟨a, c, A, rfl, hA, hl⟩ := attrs_argE k1
  injection e0 with e0
  injection e1 with e1
  subst e0 e1
  exact ⟨s0, s1.data.toList, a, c, A, rfl, by simp, rfl, hA⟩
theorem deeds_arg {H : Type} {enc : TypeId × Value → H} {w : World} {a0 : Option Addr} {len cap : Nat} {d : DataW H} {ps : List MemPlace}
    (h : DataW.Trod enc Tryz.prog w 0 (fun _ => true) true 22 (.slice a0 len cap) d ps) : ∃ L : List Dd, L.length = len ∧ DdAt w (.slice a0 len cap) L ∧ cap ≤ maxLen := by
  obtain ⟨fuel, hf⟩ := h
  rcases open_slice Tryz.underlying22 hf with h0 | ⟨a, len', cap', m, n, D, Pl, hcs, hb, hl, hm, hmm, _, hx⟩
  · have h0 := h0.1
    simp [Value.cells] at h0
    obtain ⟨rfl, rfl, rfl⟩ := h0
    exact ⟨[], rfl, ⟨none, 0, rfl, fun i hi => by simp at hi⟩, by decide⟩
  · simp [Value.cells] at hcs
    obtain ⟨rfl, rfl, rfl⟩ := hcs
    simp only [if_true] at hmm
    subst hmm
    obtain ⟨q, hq⟩ := choose_lt (α := Dd × Value) (n := m) (p := fun i q => w.cells? 0 (a.add (i * 3)) 3 = some [.int .i64 q.1.1, .string ⟨q.1.2.1.toArray⟩, q.2] ∧ EaAt w q.2 q.1.2.2) (fun i hi => by
      obtain ⟨cs', h1, h2⟩ := hx i hi
      rw [dt_c3] at h1
      obtain ⟨_, hlen, hcell⟩ := World.cells?_some h1
      match cs', hlen, h1, h2 with
      | [v0, v1, v2], _, h1, h2 =>
        obtain ⟨k, dn, a, c, A, rfl, rfl, rfl, hA⟩ := deed_cells h2
        exact ⟨((k, dn, A), _), h1, hA⟩)
    have hlen : ((List.range len).map fun i => (q i).1).length = len := by simp
    refine ⟨(List.range len).map fun i => (q i).1, hlen, ⟨some a, m, by rw [hlen], fun i hi => ?_⟩, by omega⟩
    rw [hlen] at hi
    obtain ⟨_, _, hcell⟩ := World.cells?_some (hq i (by omega)).1
    obtain ⟨_, _, hcell0⟩ := World.cells?_some (hq 0 (by omega)).1
    obtain ⟨b, off, spot⟩ := a
    have hspot : spot = none := by
      have := hcell0 0 (by omega)
      simpa [Addr.add] using World.cell?_spot this
    subst hspot
    have z : ∀ j, j < 3 → w.cell? ⟨b, off + i * 3 + j, none⟩ = ([Value.int .i64 (q i).1.1, .string ⟨(q i).1.2.1.toArray⟩, (q i).2] : List Value)[j]? := by
      intro j hj
      have := hcell j hj
      rw [add_add, add_plain] at this
      rw [Nat.add_assoc, this]
    have z0 := z 0 (by omega)
    refine ⟨b, off, (q i).2, rfl, World.block_lt_of_cell? w _ (show w.cell? ⟨b, off + i * 3, none⟩ = some (.int .i64 (q i).1.1) from z0), ?_, ?_, ?_, ?_⟩
    · rw [show off + i * 3 = off + i * 3 + 0 by omega, z0]; simp
    · rw [z 1 (by omega)]; simp
    · rw [z 2 (by omega)]; simp
    · simpa using (hq i (by omega)).2
set_option maxRecDepth 100000 in
theorem deed_arg {H : Type} {enc : TypeId × Value → H} {w : World} {r : Reach} {b0 : Nat} {v : Value} {d : DataW H} {ps : List MemPlace} (hval : Value.okWide Tryz.prog w r b0 41 v)
    (h : DataW.Trod enc Tryz.prog w 0 (fun _ => true) true 41 v d ps) : ∃ (k : Int) (dn : List UInt8) (a : Option Addr) (c : Nat) (A : List Atr), v = .agg #[.int .i64 k, .string ⟨dn.toArray⟩, .slice a A.length c] ∧ EaAt w (.slice a A.length c) A := by
  obtain ⟨cs, rfl, hsz⟩ := okWide_struct Tryz.underlying41 hval
  obtain ⟨fuel, hf⟩ := h
  rw [dt_c3] at hsz
  obtain ⟨cs⟩ := cs
  match cs, hsz, hf with
  | [v0, v1, v2], _, hf =>
    obtain ⟨k, dn, a, c, A, rfl, rfl, rfl, hA⟩ := deed_cells (v0 := v0) (v1 := v1) (v2 := v2) (by simpa [Value.cells] using hf)
    exact ⟨k, dn, a, c, A, rfl, hA⟩
end Go.Proofs.YtbmnpjkcomcboaaGreatDoor
