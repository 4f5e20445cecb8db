/- A search that goes on, a notice, a control, and controls, that came in as arguments, as they lie in memory. -/
import Derived.Test.YtlnfbjgadcifkaaDoorCtK
import Derived.Test.YtlnfbjgadcifkaaDoorArgs
import Derived.Deep.SlicePairs
import Derived.Lib.SmallJoins
import Derived.OpenShut
namespace Go.Proofs.YtlnfbjgadcifkaaDoor
set_option linter.unusedSimpArgs false
set_option linter.unusedVariables false
open Go Go.ChangeShapes Go.WideShapes Go.RowKit Go.Proofs.MemK Go.Deep

theorem ct_c1 : Tryd.prog.cellsOf 9 = 1 := by kernel_rfl
theorem ct_c1i : Tryd.prog.cellsOf 3 = 1 := by kernel_rfl
theorem ct_c1b : Tryd.prog.cellsOf 4 = 1 := by kernel_rfl
theorem ct_c3p : Tryd.prog.cellsOf 23 = 3 := by kernel_rfl
theorem ct_c3n : Tryd.prog.cellsOf 25 = 3 := by kernel_rfl
theorem ct_c3c : Tryd.prog.cellsOf 27 = 3 := by kernel_rfl
set_option maxRecDepth 100000 in
theorem persist_arg {H : Type} {enc : TypeId × Value → H} {w : World} {r : Reach} {b0 : Nat} {v : Value} {d : DataW H} {ps : List MemPlace} (hval : Value.okWide Tryd.prog w r b0 23 v)
    (h : DataW.Trod enc Tryd.prog w 0 (fun _ => true) true 23 v d ps) : ∃ (t : Int) (c r : Bool), v = .agg #[.int .i64 t, .bool c, .bool r] := by
  obtain ⟨v0, v1, v2, y0, y1, y2, n, rfl, _, _, g0, g1, g2⟩ := Joins.open_agg3 Tryd.underlying23 (by kernel_rfl) ct_c3p hval h
  obtain ⟨s0, e0, _⟩ := DataW.trod_int Tryd.underlying3 g0
  obtain ⟨s1, e1, _⟩ := DataW.trod_bool Tryd.underlying4 g1
  obtain ⟨s2, e2, _⟩ := DataW.trod_bool Tryd.underlying4 g2
  injection e0 with e0
  injection e1 with e1
  injection e2 with e2
  subst e0 e1 e2
  exact ⟨s0, s1, s2, rfl⟩
set_option maxRecDepth 100000 in
theorem notice_arg {H : Type} {enc : TypeId × Value → H} {w : World} {r : Reach} {b0 : Nat} {v : Value} {d : DataW H} {ps : List MemPlace} (hval : Value.okWide Tryd.prog w r b0 25 v)
    (h : DataW.Trod enc Tryd.prog w 0 (fun _ => true) true 25 v d ps) : ∃ (k : Int) (o : List UInt8) (n : Int), v = .agg #[.int .i64 k, .string ⟨o.toArray⟩, .int .i64 n] ∧ o.length ≤ maxLen := by
  obtain ⟨v0, v1, v2, y0, y1, y2, n, rfl, _, _, g0, g1, g2⟩ := Joins.open_agg3 Tryd.underlying25 (by kernel_rfl) ct_c3n hval h
  obtain ⟨s0, e0, _⟩ := DataW.trod_int Tryd.underlying3 g0
  obtain ⟨s1, e1, _, hs⟩ := DataW.trod_string Tryd.underlying9 g1
  obtain ⟨s2, e2, _⟩ := DataW.trod_int Tryd.underlying3 g2
  injection e0 with e0
  injection e1 with e1
  injection e2 with e2
  subst e0 e1 e2
  exact ⟨s0, s1.data.toList, s2, by simp, by simpa using hs⟩
set_option maxRecDepth 100000 in
theorem control_arg {H : Type} {enc : TypeId × Value → H} {w : World} {r : Reach} {b0 : Nat} {v : Value} {d : DataW H} {ps : List MemPlace} (hval : Value.okWide Tryd.prog w r b0 27 v)
    (h : DataW.Trod enc Tryd.prog w 0 (fun _ => true) true 27 v d ps) : ∃ (o : List UInt8) (b : Bool) (x : List UInt8), v = .agg #[.string ⟨o.toArray⟩, .bool b, .string ⟨x.toArray⟩] ∧ o.length ≤ maxLen ∧ x.length ≤ maxLen := by
  obtain ⟨v0, v1, v2, y0, y1, y2, n, rfl, _, _, g0, g1, g2⟩ := Joins.open_agg3 Tryd.underlying27 (by kernel_rfl) ct_c3c hval h
  obtain ⟨s0, e0, _, hs⟩ := DataW.trod_string Tryd.underlying9 g0
  obtain ⟨s1, e1, _⟩ := DataW.trod_bool Tryd.underlying4 g1
  obtain ⟨s2, e2, _, hs2⟩ := DataW.trod_string Tryd.underlying9 g2
  injection e0 with e0
  injection e1 with e1
  injection e2 with e2
  subst e0 e1 e2
  exact ⟨s0.data.toList, s1, s2.data.toList, by simp, by simpa using hs, by simpa using hs2⟩
/-- A control's three cells, told apart. -/
theorem control_cells {H : Type} {enc : TypeId × Value → H} {w : World} {fuel : Nat} {v0 v1 v2 : Value} {x : DataW H × List MemPlace}
    (h : DataW.trod enc Tryd.prog w 0 (fun _ => true) true fuel 27 [v0, v1, v2] = some x) : ∃ r : Ct, [v0, v1, v2] = ctC r ∧ r.1.length ≤ maxLen ∧ r.2.2.length ≤ maxLen := by
  obtain ⟨y0, y1, y2, n, hx, _, g0, g1, g2⟩ := trod_struct3 Tryd.underlying27 h
  have g0 : DataW.trod enc Tryd.prog w 0 (fun _ => true) true n 9 [v0] = some y0 := by simpa [ct_c1] using g0
  have g1 : DataW.trod enc Tryd.prog w 0 (fun _ => true) true n 4 [v1] = some y1 := by simpa [ct_c1b] using g1
  have g2 : DataW.trod enc Tryd.prog w 0 (fun _ => true) true n 9 [v2] = some y2 := by simpa [ct_c1] using g2
  obtain ⟨s0, e0, _, hs⟩ := DataW.trod_string Tryd.underlying9 g0
  obtain ⟨s1, e1, _⟩ := DataW.trod_bool Tryd.underlying4 g1
  obtain ⟨s2, e2, _, hs2⟩ := DataW.trod_string Tryd.underlying9 g2
  injection e0 with e0
  injection e1 with e1
  injection e2 with e2
  subst e0 e1 e2
  exact ⟨(s0.data.toList, s1, s2.data.toList), by simp [ctC], by simpa using hs, by simpa using hs2⟩
theorem controls_arg {H : Type} {enc : TypeId × Value → H} {w : World} {a0 : Option Addr} {len cap : Nat} {d : DataW H} {ps : List MemPlace}
    (h : DataW.Trod enc Tryd.prog w 0 (fun _ => true) true 48 (.slice a0 len cap) d ps) : ∃ L : List Ct, L.length = len ∧ CoAt w (.slice a0 len cap) L ∧ (∀ r ∈ L, r.1.length ≤ maxLen ∧ r.2.2.length ≤ maxLen) ∧ len ≤ maxLen := by
  obtain ⟨fuel, hf⟩ := h
  rcases open_slice Tryd.underlying48 hf with h0 | ⟨a, len', cap', m, n, D, Pl, hcs, hb, hl, hm, hmm, _, hx⟩
  · have h0 := h0.1
    simp [Value.cells] at h0
    obtain ⟨rfl, rfl, rfl⟩ := h0
    exact ⟨[], rfl, ⟨none, 0, rfl, fun i hi => by simp at hi⟩, by simp, by decide⟩
  · simp [Value.cells] at hcs
    obtain ⟨rfl, rfl, rfl⟩ := hcs
    simp only [if_true] at hmm
    subst hmm
    obtain ⟨q, hq⟩ := choose_lt (α := Ct) (n := m) (p := fun i q => w.cells? 0 (a.add (i * 3)) 3 = some (ctC q) ∧ q.1.length ≤ maxLen ∧ q.2.2.length ≤ maxLen) (fun i hi => by
      obtain ⟨cs', h1, h2⟩ := hx i hi
      rw [ct_c3c] at h1
      obtain ⟨_, hlen, hcell⟩ := World.cells?_some h1
      match cs', hlen, h1, h2 with
      | [v0, v1, v2], _, h1, h2 =>
        obtain ⟨r, hr, hr2⟩ := control_cells h2
        exact ⟨r, by rw [h1, hr], hr2⟩)
    have hlen : ((List.range len).map q).length = len := by simp
    refine ⟨(List.range len).map q, hlen, ⟨some a, m, by rw [hlen], fun i hi => ?_⟩, fun r hr => ?_, by omega⟩
    · rw [hlen] at hi
      obtain ⟨_, _, hcell⟩ := World.cells?_some (hq i (by omega)).1
      obtain ⟨_, _, hcell0⟩ := World.cells?_some (hq 0 (by omega)).1
      obtain ⟨b, off, spot⟩ := a
      have hspot : spot = none := by
        have := hcell0 0 (by omega)
        simpa [Addr.add] using World.cell?_spot this
      subst hspot
      have z : ∀ j, j < 3 → w.cell? ⟨b, off + i * 3 + j, none⟩ = (ctC (q i))[j]? := by
        intro j hj
        have := hcell j hj
        rw [add_add, add_plain] at this
        rw [Nat.add_assoc, this]
      have z0 := z 0 (by omega)
      refine ⟨b, off, rfl, World.block_lt_of_cell? w _ (show w.cell? ⟨b, off + i * 3, none⟩ = some (.string ⟨(q i).1.toArray⟩) from z0), fun j hj => ?_⟩
      rw [z j hj]
      simp
    · obtain ⟨i, hi, rfl⟩ := List.mem_map.1 hr
      have hi := List.mem_range.1 hi
      exact (hq i (by omega)).2
end Go.Proofs.YtlnfbjgadcifkaaDoor
