/- Classes that came in as arguments: their texts are no longer than the form's own reach. -/
import Derived.Test.YtcfckgpjdaadeaaGreatDoorSnArg
import Derived.SizedLaws
namespace Go.Proofs.YtcfckgpjdaadeaaGreatDoor
set_option linter.unusedSimpArgs false
set_option linter.unusedVariables false
open Go Go.ChangeShapes Go.WideShapes Go.RowKit Go.Proofs.MemK Go.Deep

theorem wAll_mem {H : Type} {P : Program} {e : TypeId} {d : DataW H} : ∀ {l : List (DataW H)}, d ∈ l → ∀ n ∈ d.weights P e, n ∈ DataW.weightsAll P e l := by
  intro l
  induction l with
  | nil => intro h; simp at h
  | cons x l ih =>
    intro h n hn
    simp only [DataW.weightsAll, List.mem_append]
    rcases List.mem_cons.1 h with rfl | h
    · exact .inl hn
    · exact .inr (ih h n hn)
theorem strs_cellw {H : Type} {enc : TypeId × Value → H} {P : Program} {w : World} {t e : TypeId} {n : Nat} {v : Value} {x : DataW H × List MemPlace} (ht : P.underlying t = some (.slice e)) (he : P.underlying e = some .string) (hc : P.cellsOf e = 1)
    (h : DataW.trod enc P w 0 (fun _ => true) true n t [v] = some x) : ∃ (a : Option Addr) (c : Nat) (l : List (List UInt8)), v = .slice a l.length c ∧ StrAt w (.slice a l.length c) l ∧ ∀ s ∈ l, s.length ∈ x.1.weights P t := by
  rcases open_strings ht he hc h with ⟨hcs, _⟩ | ⟨a, len, cap, ss, hcs, _, hl, hm, hz, hx, hcell, _⟩
  · injection hcs with hv _
    subst hv
    exact ⟨none, 0, [], rfl, .inl ⟨rfl, _, _, rfl⟩, by simp⟩
  · injection hcs with hv _
    subst hv
    simp only [if_true] at hz
    have hlen : ((ss.take len).map fun s => s.data.toList).length = len := by simp; omega
    refine ⟨some a, cap, (ss.take len).map fun s => s.data.toList, by rw [hlen], ?_, ?_⟩
    · by_cases h0 : len = 0
      · subst h0
        exact .inl ⟨by simp, some a, cap, by simp⟩
      · obtain ⟨b, off, spot⟩ := a
        have hspot : spot = none := by simpa [Addr.add] using World.cell?_spot (hcell 0 (by omega))
        subst hspot
        refine .inr ⟨by omega, b, off, cap, rfl, World.block_lt_of_cell? w _ (hcell 0 (by omega)), fun i hi => ?_⟩
        rw [hlen] at hi
        rw [← add_plain, hcell i (by omega)]
        have hi2 : i < ss.length := by omega
        simp [List.getD, hi2]
    · intro s hs
      obtain ⟨q, hq, rfl⟩ := List.mem_map.1 hs
      rw [hx]
      simp only [DataW.weights, ht, List.mem_cons, List.mem_append]
      refine .inr (.inl (wAll_mem (d := .lit (.string q.data.toList)) ?_ _ (by simp [DataW.weights])))
      unfold strs
      exact List.mem_map.2 ⟨q, hq, rfl⟩
/-- A slice of structs of three one-cell fields, opened at every index. -/
theorem open_threes2 {H : Type} {enc : TypeId × Value → H} {P : Program} {w : World} {t e : TypeId} {f0 f1 f2 : Field} {fuel : Nat} {cs : List Value} {x : DataW H × List MemPlace} (ht : P.underlying t = some (.slice e)) (he : P.underlying e = some (.struct #[f0, f1, f2]))
    (ce : P.cellsOf e = 3) (o0 : f0.offset = 0) (o1 : f1.offset = 1) (o2 : f2.offset = 2) (c0 : P.cellsOf f0.type = 1) (c1 : P.cellsOf f1.type = 1) (c2 : P.cellsOf f2.type = 1)
    (h : DataW.trod enc P w 0 (fun _ => true) true fuel t cs = some x) :
    cs = [.slice none 0 0] ∨
    ∃ (a : Addr) (len cap n : Nat) (V0 V1 V2 : Nat → Value) (Y0 Y1 Y2 : Nat → DataW H × List MemPlace), cs = [.slice (some a) len cap] ∧ len ≤ cap ∧ cap ≤ maxLen ∧ (∃ sp, x.1 = .slice ((List.range len).map fun i => .agg [(Y0 i).1, (Y1 i).1, (Y2 i).1]) sp) ∧
      ∀ i, i < cap → w.cell? (a.add (i * 3)) = some (V0 i) ∧ w.cell? (a.add (i * 3 + 1)) = some (V1 i) ∧ w.cell? (a.add (i * 3 + 2)) = some (V2 i) ∧
        DataW.trod enc P w 0 (fun _ => true) true n f0.type [V0 i] = some (Y0 i) ∧ DataW.trod enc P w 0 (fun _ => true) true n f1.type [V1 i] = some (Y1 i) ∧ DataW.trod enc P w 0 (fun _ => true) true n f2.type [V2 i] = some (Y2 i) := by
  rcases open_slice ht h with h0 | ⟨a, len, cap, m, n, D, Pl, rfl, hb, hl, hm, hmm, rfl, hx⟩
  · exact Or.inl h0.1
  right
  simp only [if_true] at hmm
  subst hmm
  have each : ∀ i, i < m → ∃ q : (Value × Value × Value) × (DataW H × List MemPlace) × (DataW H × List MemPlace) × (DataW H × List MemPlace), w.cell? (a.add (i * 3)) = some q.1.1 ∧ w.cell? (a.add (i * 3 + 1)) = some q.1.2.1 ∧ w.cell? (a.add (i * 3 + 2)) = some q.1.2.2 ∧
      DataW.trod enc P w 0 (fun _ => true) true (n - 1) f0.type [q.1.1] = some q.2.1 ∧ DataW.trod enc P w 0 (fun _ => true) true (n - 1) f1.type [q.1.2.1] = some q.2.2.1 ∧ DataW.trod enc P w 0 (fun _ => true) true (n - 1) f2.type [q.1.2.2] = some q.2.2.2 ∧ D i = .agg [q.2.1.1, q.2.2.1.1, q.2.2.2.1] := by
    intro i hi
    obtain ⟨cs', h1, h2⟩ := hx i hi
    rw [ce] at h1
    obtain ⟨_, hlen, hcell⟩ := World.cells?_some h1
    obtain ⟨xs, k, hk, hxy, _, hxl, hf⟩ := DataW.trod_struct he h2
    have hk' : k = n - 1 := by omega
    subst hk'
    match xs, hxl, cs', hlen with
    | [y0, y1, y2], _, [v0, v1, v2], _ =>
      have g0 := hf 0 f0 rfl
      have g1 := hf 1 f1 rfl
      have g2 := hf 2 f2 rfl
      simp [o0, o1, o2, c0, c1, c2] at g0 g1 g2
      have e0 := hcell 0 (by omega)
      have e1 := hcell 1 (by omega)
      have e2 := hcell 2 (by omega)
      rw [add_add] at e0 e1 e2
      exact ⟨((v0, v1, v2), y0, y1, y2), by simpa using e0, by simpa using e1, by simpa using e2, g0, g1, g2, by simp only [Prod.mk.injEq] at hxy; simpa using hxy.1⟩
  obtain ⟨q, hq⟩ := choose_lt each
  exact ⟨a, len, m, n - 1, fun i => (q i).1.1, fun i => (q i).1.2.1, fun i => (q i).1.2.2, fun i => (q i).2.1, fun i => (q i).2.2.1, fun i => (q i).2.2.2, rfl, hl, hm, ⟨_, by rw [List.map_congr_left (fun i hi => (hq i (by have := List.mem_range.1 hi; omega)).2.2.2.2.2.2)]⟩, fun i hi => ⟨(hq i hi).1, (hq i hi).2.1, (hq i hi).2.2.1, (hq i hi).2.2.2.1, (hq i hi).2.2.2.2.1, (hq i hi).2.2.2.2.2.1⟩⟩
theorem cls_bound {H : Type} {d : DataW H} {q : Nat → Cl} {len cap : Nat} {Y0 Y1 Y2 : Nat → DataW H × List MemPlace} {sp : List (DataW H)} {V0 V1 V2 : Nat → Value} {w : World} (hD : d = .slice ((List.range len).map fun i => .agg [(Y0 i).1, (Y1 i).1, (Y2 i).1]) sp) (hl : len ≤ cap)
    (hq : ∀ i, i < cap → V0 i = .string ⟨(q i).1.toArray⟩ ∧ TxR w (V1 i) (q i).2.1 ∧ TxR w (V2 i) (q i).2.2 ∧ SlOk (V1 i) ∧ SlOk (V2 i) ∧ (∀ s ∈ (q i).2.1, s.length ∈ (Y1 i).1.weights Tryz.prog 38) ∧ ∀ s ∈ (q i).2.2, s.length ∈ (Y2 i).1.weights Tryz.prog 38)
    (hw : ∀ n ∈ d.weights Tryz.prog 30, n ≤ reachBytes) (c : Cl) (hc : c ∈ (List.range len).map q) : (∀ s ∈ c.2.1, s.length ≤ 140737488355328) ∧ ∀ s ∈ c.2.2, s.length ≤ 140737488355328 := by
  obtain ⟨i, hi, rfl⟩ := List.mem_map.1 hc
  have hi : i < len := List.mem_range.1 hi
  obtain ⟨_, _, _, _, _, k1, k2⟩ := hq i (by omega)
  have key : ∀ n ∈ (DataW.agg [(Y0 i).1, (Y1 i).1, (Y2 i).1]).weights Tryz.prog 40, n ≤ reachBytes := fun n hn => by
    refine hw n ?_
    rw [hD]
    simp only [DataW.weights, Tryz.underlying30, List.mem_cons, List.mem_append]
    exact .inr (.inl (wAll_mem (List.mem_map.2 ⟨i, List.mem_range.2 hi, rfl⟩) n hn))
  have hr : reachBytes ≤ 140737488355328 := by decide
  refine ⟨fun s hs => Nat.le_trans (key _ ?_) hr, fun s hs => Nat.le_trans (key _ ?_) hr⟩
  · simp only [DataW.weights, Tryz.underlying40]
    exact DataW.weights_mem_each (j := 1) rfl rfl _ (k1 s hs)
  · simp only [DataW.weights, Tryz.underlying40]
    exact DataW.weights_mem_each (j := 2) rfl rfl _ (k2 s hs)
theorem cls_arg2 {H : Type} {enc : TypeId × Value → H} {w : World} {a0 : Option Addr} {len cap : Nat} {d : DataW H} {ps : List MemPlace}
    (h : DataW.Trod enc Tryz.prog w 0 (fun _ => true) true 30 (.slice a0 len cap) d ps) : ∃ C : List Cl, C.length = len ∧ ClAt w (.slice a0 len cap) C ∧ len ≤ maxLen ∧ ((∀ n ∈ d.weights Tryz.prog 30, n ≤ reachBytes) → ∀ c ∈ C, (∀ s ∈ c.2.1, s.length ≤ 140737488355328) ∧ ∀ s ∈ c.2.2, s.length ≤ 140737488355328) := by
  obtain ⟨fuel, hf⟩ := h
  rcases open_threes2 Tryz.underlying30 Tryz.underlying40 en_c3c rfl rfl rfl en_c1 en_c1s en_c1s hf with hcs | ⟨a, len', cap', n, V0, V1, V2, Y0, Y1, Y2, hcs, hl, hm, ⟨sp, hD⟩, hx⟩
  · simp [Value.cells] at hcs
    obtain ⟨rfl, rfl, rfl⟩ := hcs
    exact ⟨[], rfl, ⟨none, 0, rfl, fun i hi => by simp at hi⟩, by decide, fun _ c hc => by simp at hc⟩
  · simp [Value.cells] at hcs
    obtain ⟨rfl, rfl, rfl⟩ := hcs
    obtain ⟨q, hq⟩ := choose_lt (α := Cl) (n := cap) (p := fun i q => V0 i = .string ⟨q.1.toArray⟩ ∧ TxR w (V1 i) q.2.1 ∧ TxR w (V2 i) q.2.2 ∧ SlOk (V1 i) ∧ SlOk (V2 i) ∧ (∀ s ∈ q.2.1, s.length ∈ (Y1 i).1.weights Tryz.prog 38) ∧ ∀ s ∈ q.2.2, s.length ∈ (Y2 i).1.weights Tryz.prog 38) (fun i hi => by
      obtain ⟨s0, e0, _⟩ := DataW.trod_string Tryz.underlying9 (hx i hi).2.2.2.1
      obtain ⟨a1, c1, l1, e1, h1, k1⟩ := strs_cellw Tryz.underlying38 Tryz.underlying9 en_c1 (hx i hi).2.2.2.2.1
      obtain ⟨a2, c2, l2, e2, h2, k2⟩ := strs_cellw Tryz.underlying38 Tryz.underlying9 en_c1 (hx i hi).2.2.2.2.2
      exact ⟨(s0.data.toList, l1, l2), by simpa using e0, by rw [e1]; exact txR_str h1, by rw [e2]; exact txR_str h2, slOk_cell (hx i hi).2.2.2.2.1, slOk_cell (hx i hi).2.2.2.2.2, k1, k2⟩)
    have hlen : ((List.range len).map q).length = len := by simp
    refine ⟨(List.range len).map q, hlen, ⟨some a, cap, by rw [hlen], fun i hi => ?_⟩, by omega, fun hw c hc => ?_⟩
    rotate_left
    · exact cls_bound hD hl hq hw c hc
    rw [hlen] at hi
    obtain ⟨b, off, spot⟩ := a
    have hspot : spot = none := by simpa [Addr.add] using World.cell?_spot (hx 0 (by omega)).1
    subst hspot
    obtain ⟨x0, x1, x2, _⟩ := hx i (by omega)
    obtain ⟨y0, y1, y2, y3, y4, _⟩ := hq i (by omega)
    rw [y0] at x0
    have z0 : w.cell? ⟨b, off + i * 3, none⟩ = some (.string ⟨(q i).1.toArray⟩) := by rw [← add_plain]; exact x0
    have z1 : w.cell? ⟨b, off + i * 3 + 1, none⟩ = some (V1 i) := by rw [Nat.add_assoc, ← add_plain]; exact x1
    have z2 : w.cell? ⟨b, off + i * 3 + 2, none⟩ = some (V2 i) := by rw [Nat.add_assoc, ← add_plain]; exact x2
    refine ⟨b, off, V1 i, V2 i, rfl, World.block_lt_of_cell? w _ z0, ?_, z1, z2, ?_, ?_, y3, y4⟩
    · rw [z0]; simp
    · simpa using y1
    · simpa using y2
end Go.Proofs.YtcfckgpjdaadeaaGreatDoor
