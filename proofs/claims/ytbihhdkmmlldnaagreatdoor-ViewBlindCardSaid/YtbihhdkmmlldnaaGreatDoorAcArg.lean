/- Rules, and who asks what, that came in as arguments lie in memory as lists. -/
import Derived.Test.YtbihhdkmmlldnaaGreatDoorAcAE
import Derived.Test.YtbihhdkmmlldnaaGreatDoorGenB
import Derived.Deep.SlicePairs
import Derived.Lib.SmallJoins
import Derived.OpenShut
namespace Go.Proofs.YtbihhdkmmlldnaaGreatDoor
set_option linter.unusedSimpArgs false
set_option linter.unusedVariables false
open Go Go.ChangeShapes Go.WideShapes Go.RowKit Go.Proofs.MemK Go.Deep

/-- A struct of five one-cell fields, opened. -/
theorem open_five {H : Type} {enc : TypeId × Value → H} {P : Program} {w : World} {e : TypeId} {f0 f1 f2 f3 f4 : Field} {fuel : Nat} {v0 v1 v2 v3 v4 : Value} {x : DataW H × List MemPlace} (he : P.underlying e = some (.struct #[f0, f1, f2, f3, f4]))
    (o0 : f0.offset = 0) (o1 : f1.offset = 1) (o2 : f2.offset = 2) (o3 : f3.offset = 3) (o4 : f4.offset = 4) (c0 : P.cellsOf f0.type = 1) (c1 : P.cellsOf f1.type = 1) (c2 : P.cellsOf f2.type = 1) (c3 : P.cellsOf f3.type = 1) (c4 : P.cellsOf f4.type = 1)
    (h : DataW.trod enc P w 0 (fun _ => true) true fuel e [v0, v1, v2, v3, v4] = some x) :
    ∃ (y0 y1 y2 y3 y4 : DataW H × List MemPlace) (n : Nat), fuel = n + 1 ∧ DataW.trod enc P w 0 (fun _ => true) true n f0.type [v0] = some y0 ∧ DataW.trod enc P w 0 (fun _ => true) true n f1.type [v1] = some y1 ∧ DataW.trod enc P w 0 (fun _ => true) true n f2.type [v2] = some y2 ∧ DataW.trod enc P w 0 (fun _ => true) true n f3.type [v3] = some y3 ∧ DataW.trod enc P w 0 (fun _ => true) true n f4.type [v4] = some y4 := by
  obtain ⟨xs, k, hk, hxy, _, hxl, hf⟩ := DataW.trod_struct he h
  match xs, hxl with
  | [y0, y1, y2, y3, y4], _ =>
    have g0 := hf 0 f0 rfl
    have g1 := hf 1 f1 rfl
    have g2 := hf 2 f2 rfl
    have g3 := hf 3 f3 rfl
    have g4 := hf 4 f4 rfl
    simp [o0, o1, o2, o3, o4, c0, c1, c2, c3, c4] at g0 g1 g2 g3 g4
    exact ⟨y0, y1, y2, y3, y4, k, by omega, g0, g1, g2, g3, g4⟩
theorem ac_c1 : Tryz.prog.cellsOf 9 = 1 := by kernel_rfl
theorem ac_c1i : Tryz.prog.cellsOf 3 = 1 := by kernel_rfl
theorem ac_c1b : Tryz.prog.cellsOf 4 = 1 := by kernel_rfl
theorem ac_c5 : Tryz.prog.cellsOf 34 = 5 := by kernel_rfl
/-- A rule's five cells, told apart. -/
theorem rule_cells {H : Type} {enc : TypeId × Value → H} {w : World} {fuel : Nat} {v0 v1 v2 v3 v4 : Value} {x : DataW H × List MemPlace}
    (h : DataW.trod enc Tryz.prog w 0 (fun _ => true) true fuel 34 [v0, v1, v2, v3, v4] = some x) : ∃ r : Rl, [v0, v1, v2, v3, v4] = rlC r := by
  obtain ⟨y0, y1, y2, y3, y4, n, _, g0, g1, g2, g3, g4⟩ := open_five Tryz.underlying34 rfl rfl rfl rfl rfl ac_c1 ac_c1 ac_c1 ac_c1i ac_c1b h
  obtain ⟨s0, e0, _⟩ := DataW.trod_string Tryz.underlying9 g0
  obtain ⟨s1, e1, _⟩ := DataW.trod_string Tryz.underlying9 g1
  obtain ⟨s2, e2, _⟩ := DataW.trod_string Tryz.underlying9 g2
  obtain ⟨s3, e3, _⟩ := DataW.trod_int Tryz.underlying3 g3
  obtain ⟨s4, e4, _⟩ := DataW.trod_bool Tryz.underlying4 g4
  injection e0 with e0
  injection e1 with e1
  injection e2 with e2
  injection e3 with e3
  injection e4 with e4
  subst e0 e1 e2 e3 e4
  exact ⟨(s0.data.toList, s1.data.toList, s2.data.toList, s3, s4), by simp [rlC]⟩
theorem rules_arg {H : Type} {enc : TypeId × Value → H} {w : World} {a0 : Option Addr} {len cap : Nat} {d : DataW H} {ps : List MemPlace}
    (h : DataW.Trod enc Tryz.prog w 0 (fun _ => true) true 22 (.slice a0 len cap) d ps) : ∃ L : List Rl, L.length = len ∧ RlAt w (.slice a0 len cap) L ∧ len ≤ cap ∧ cap ≤ maxLen ∧ (a0 = none → cap = 0) := by
  obtain ⟨fuel, hf⟩ := h
  rcases open_slice Tryz.underlying22 hf with h0 | ⟨a, len', cap', m, n, D, Pl, hcs, hb, hl, hm, hmm, _, hx⟩
  · have h0 := h0.1
    simp [Value.cells] at h0
    obtain ⟨rfl, rfl, rfl⟩ := h0
    exact ⟨[], rfl, ⟨none, 0, rfl, fun i hi => by simp at hi⟩, by decide, by decide, fun _ => rfl⟩
  · simp [Value.cells] at hcs
    obtain ⟨rfl, rfl, rfl⟩ := hcs
    simp only [if_true] at hmm
    subst hmm
    obtain ⟨q, hq⟩ := choose_lt (α := Rl) (n := m) (p := fun i q => w.cells? 0 (a.add (i * 5)) 5 = some (rlC q)) (fun i hi => by
      obtain ⟨cs', h1, h2⟩ := hx i hi
      rw [ac_c5] at h1
      obtain ⟨_, hlen, hcell⟩ := World.cells?_some h1
      match cs', hlen, h1, h2 with
      | [v0, v1, v2, v3, v4], _, h1, h2 =>
        obtain ⟨r, hr⟩ := rule_cells h2
        exact ⟨r, by rw [h1, hr]⟩)
    have hlen : ((List.range len).map q).length = len := by simp
    refine ⟨(List.range len).map q, hlen, ⟨some a, m, by rw [hlen], fun i hi => ?_⟩, by omega, by omega, fun h => by cases h⟩
    rw [hlen] at hi
    obtain ⟨_, _, hcell⟩ := World.cells?_some (hq i (by omega))
    obtain ⟨_, _, hcell0⟩ := World.cells?_some (hq 0 (by omega))
    obtain ⟨b, off, spot⟩ := a
    have hspot : spot = none := by
      have := hcell0 0 (by omega)
      simpa [Addr.add] using World.cell?_spot this
    subst hspot
    have z : ∀ j, j < 5 → w.cell? ⟨b, off + i * 5 + j, none⟩ = (rlC (q i))[j]? := by
      intro j hj
      have := hcell j hj
      rw [add_add, add_plain] at this
      rw [Nat.add_assoc, this]
    have z0 := z 0 (by omega)
    refine ⟨b, off, rfl, World.block_lt_of_cell? w _ (show w.cell? ⟨b, off + i * 5, none⟩ = some (.string ⟨(q i).1.toArray⟩) from z0), fun j hj => ?_⟩
    rw [z j hj]
    simp
set_option maxRecDepth 100000 in
theorem rule_arg {H : Type} {enc : TypeId × Value → H} {w : World} {r : Reach} {b0 : Nat} {v : Value} {d : DataW H} {ps : List MemPlace} (hval : Value.okWide Tryz.prog w r b0 34 v)
    (h : DataW.Trod enc Tryz.prog w 0 (fun _ => true) true 34 v d ps) : ∃ r : Rl, v = rlV r := by
  obtain ⟨cs, rfl, hsz⟩ := okWide_struct Tryz.underlying34 hval
  obtain ⟨fuel, hf⟩ := h
  rw [ac_c5] at hsz
  obtain ⟨cs⟩ := cs
  match cs, hsz, hf with
  | [v0, v1, v2, v3, v4], _, hf =>
    obtain ⟨r, hr⟩ := rule_cells (v0 := v0) (v1 := v1) (v2 := v2) (v3 := v3) (v4 := v4) (by simpa [Value.cells] using hf)
    exact ⟨r, by rw [hr]; rfl⟩
theorem ac_c3 : Tryz.prog.cellsOf 24 = 3 := by kernel_rfl
set_option maxRecDepth 100000 in
theorem ask_arg {H : Type} {enc : TypeId × Value → H} {w : World} {r : Reach} {b0 : Nat} {v : Value} {d : DataW H} {ps : List MemPlace} (hval : Value.okWide Tryz.prog w r b0 24 v)
    (h : DataW.Trod enc Tryz.prog w 0 (fun _ => true) true 24 v d ps) : ∃ x y z : List UInt8, v = .agg #[.string ⟨x.toArray⟩, .string ⟨y.toArray⟩, .string ⟨z.toArray⟩] := by
  obtain ⟨v0, v1, v2, y0, y1, y2, n, rfl, _, _, g0, g1, g2⟩ := Joins.open_agg3 Tryz.underlying24 (by kernel_rfl) ac_c3 hval h
  obtain ⟨s0, e0, _⟩ := DataW.trod_string Tryz.underlying9 g0
  obtain ⟨s1, e1, _⟩ := DataW.trod_string Tryz.underlying9 g1
  obtain ⟨s2, e2, _⟩ := DataW.trod_string Tryz.underlying9 g2
  injection e0 with e0
  injection e1 with e1
  injection e2 with e2
  subst e0 e1 e2
  exact ⟨s0.data.toList, s1.data.toList, s2.data.toList, by simp⟩
end Go.Proofs.YtbihhdkmmlldnaaGreatDoor
