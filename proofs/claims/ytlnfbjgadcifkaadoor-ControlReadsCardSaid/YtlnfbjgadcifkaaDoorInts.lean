/- Numbers anywhere in memory, to be read: arguments, rows of the call's own; small posts; over any program. -/
import Derived.Test.YtlnfbjgadcifkaaDoorArgs
import Derived.Deep.Upon
import Derived.ArgAppend
namespace Go.Proofs.MemK
set_option linter.unusedSimpArgs false
set_option linter.unusedVariables false
open Go Go.ChangeShapes Go.WideShapes Go.RowKit Go.Proofs.BerK

/-- Numbers lie in memory, to be read. -/
def IntR (w : World) (v : Value) (l : List Int) : Prop :=
  ∃ a c, v = .slice a l.length c ∧ ∀ i (hi : i < l.length), ∃ g o, a = some ⟨g, o, none⟩ ∧ g < w.heap.size ∧ w.cell? ⟨g, o + i, none⟩ = some (.int .i64 l[i])
theorem intR_below {w w' : World} {v : Value} {l : List Int} (h : IntR w v l) (hb : Below w.heap.size w w') : IntR w' v l := by
  obtain ⟨a, c, rfl, h⟩ := h
  refine ⟨a, c, rfl, fun i hi => ?_⟩
  obtain ⟨g, o, h1, h2, h3⟩ := h i hi
  exact ⟨g, o, h1, Nat.lt_of_lt_of_le h2 hb.size, (hb.cell (p := ⟨g, o + i, none⟩) h2).trans h3⟩
/-- Numbers as cells. -/
def zc (l : List Int) : List Value := l.map (Value.int .i64)
theorem zc_at (l : List Int) (i : Nat) (h : i < l.length) : (zc l)[i]? = some (.int .i64 l[i]) := by simp [zc, h]
theorem intR_owns {w : World} {B : Nat} {e : TypeId} {v : Value} {l : List Int} (h : w.ownsRow B e 1 v l.length (zc l)) : IntR w v l := by
  rcases h.2 with ⟨rfl, h0⟩ | ⟨g, cap, cur, rfl, _, hg, _⟩
  · exact ⟨none, 0, by rw [h0], fun i hi => by omega⟩
  · refine ⟨_, cap, rfl, fun i hi => ⟨g, 0, rfl, (Array.getElem?_eq_some_iff.1 hg).1, ?_⟩⟩
    rw [Nat.zero_add, h.cellAt i (by omega)]
    simp [zc, hi]
theorem intR_nil (w : World) (a : Option Addr) (c : Nat) : IntR w (.slice a 0 c) [] := ⟨a, c, rfl, fun i hi => by simp at hi⟩
theorem intR_new (w : World) (l : List Int) (e : TypeId) : IntR (w.alloc (.cells (zc l).toArray e)) (.slice (some ⟨w.heap.size, 0, none⟩) l.length l.length) l := by
  refine ⟨_, _, rfl, fun i hi => ⟨w.heap.size, 0, rfl, by simp, ?_⟩⟩
  rw [Nat.zero_add, World.cell?_alloc_mark w _ e (0, 0)]
  simp [zc, hi]
theorem intR_heap {w w' : World} {v : Value} {l : List Int} (h : IntR w v l) (hh : w'.heap = w.heap) : IntR w' v l := by
  obtain ⟨a, c, rfl, h⟩ := h
  refine ⟨a, c, rfl, fun i hi => ?_⟩
  obtain ⟨g, o, h1, h2, h3⟩ := h i hi
  refine ⟨g, o, h1, by rw [hh]; exact h2, ?_⟩
  rw [← h3]; unfold World.cell?; rw [hh]

theorem intR_arg {H : Type} {enc : TypeId × Value → H} {P : Program} {w : World} {t e : TypeId} {a0 : Option Addr} {len cap : Nat} {d : DataW H} {ps : List MemPlace} (ht : P.underlying t = some (.slice e)) (he : P.underlying e = some (.int .i64)) (hc : P.cellsOf e = 1)
    (h : DataW.Trod enc P w 0 (fun _ => true) true t (.slice a0 len cap) d ps) : ∃ l : List Int, l.length = len ∧ IntR w (.slice a0 len cap) l ∧ (∀ x ∈ l, -9223372036854775808 ≤ x ∧ x ≤ 9223372036854775807) ∧ len ≤ maxLen ∧ len ≤ cap ∧ (a0 = none → cap = 0) ∧ cap ≤ maxLen := by
  obtain ⟨fuel, hf⟩ := h
  rcases open_ints ht he hc hf with ⟨hcs, _⟩ | ⟨a, len', cap', zs, hcs, _, hl, hm, hz, _, hcell, hws⟩
  · simp [Value.cells] at hcs
    obtain ⟨rfl, rfl, rfl⟩ := hcs
    exact ⟨[], rfl, intR_nil _ _ _, by simp, by decide, by decide, fun _ => rfl, by decide⟩
  · simp [Value.cells] at hcs
    obtain ⟨rfl, rfl, rfl⟩ := hcs
    simp only [if_true] at hz
    have hlen : (zs.take len).length = len := by simp; omega
    refine ⟨zs.take len, hlen, ⟨some a, cap, by rw [hlen], fun i hi => ?_⟩, fun x hx => ?_, by omega, by omega, fun h => (by cases h), by omega⟩
    · rw [hlen] at hi
      obtain ⟨b, off, spot⟩ := a
      have hspot : spot = none := by simpa [Addr.add] using World.cell?_spot (hcell 0 (by omega))
      subst hspot
      refine ⟨b, off, rfl, World.block_lt_of_cell? w _ (hcell 0 (by omega)), ?_⟩
      rw [← add_plain, hcell i (by omega)]
      have hi2 : i < zs.length := by omega
      simp [List.getD, hi2]
    · obtain ⟨i, hi, rfl⟩ := List.getElem_of_mem hx
      rw [hlen] at hi
      have hi2 : i < zs.length := by omega
      have hb := range_i64 hws i
      simpa [List.getD, hi2] using hb

/-- What is handed back, and what lay there ahead is as it was. -/
def RetB (b : Bool) (w : World) (en : Ending) (w' : World) : Prop := en = .returned (.bool b) ∧ Below w.heap.size w w'
theorem retB_mk {a b : Bool} {w w' : World} (h : b = a) (hb : Below w.heap.size w w') : RetB b w (.returned (.bool a)) w' := by subst h; exact ⟨rfl, hb⟩
def RetI (n : Int) (w : World) (en : Ending) (w' : World) : Prop := en = .returned (.int .i64 n) ∧ Below w.heap.size w w'
theorem retI_mk {a b : Int} {w w' : World} (h : b = a) (hb : Below w.heap.size w w') : RetI b w (.returned (.int .i64 a)) w' := by subst h; exact ⟨rfl, hb⟩
theorem any_atL {α : Type} {l : List α} {q : α → Bool} (i : Nat) (hi : i < l.length) (h : q l[i] = true) : l.any q = true := by
  rw [List.any_eq_true]; exact ⟨l[i], List.getElem_mem hi, h⟩
theorem any_noL {α : Type} {l : List α} {q : α → Bool} (h : ∀ i (hi : i < l.length), q l[i] = false) : l.any q = false := by
  rw [List.any_eq_false]
  intro x hx
  obtain ⟨j, hj, rfl⟩ := List.getElem_of_mem hx
  simp [h j hj]
/-- 'append(l[:len(l):len(l)], m...)' of numbers: m's behind l's, whatever lies where. -/
theorem intR_addr {w : World} {a : Option Addr} {n c : Nat} {l : List Int} (h : IntR w (.slice a n c) l) (h0 : 0 < l.length) : ∃ g o, a = some ⟨g, o, none⟩ ∧ g < w.heap.size ∧ ∀ i (hi : i < l.length), w.cell? ⟨g, o + i, none⟩ = some (.int .i64 l[i]) := by
  obtain ⟨a', c', hv, h⟩ := h
  injection hv with h1 h2 h3
  subst h1 h3
  obtain ⟨g, o, rfl, hg, _⟩ := h 0 h0
  refine ⟨g, o, rfl, hg, fun i hi => ?_⟩
  obtain ⟨g', o', h1, _, h3⟩ := h i hi
  injection h1 with h1
  injection h1 with h1 h2
  subst h1 h2
  exact h3
theorem intR_cap {w : World} {a : Option Addr} {n c : Nat} {l : List Int} (h : IntR w (.slice a n c) l) (c' : Nat) : IntR w (.slice a n c') l := by
  obtain ⟨a', c0, hv, h⟩ := h
  injection hv with h1 h2 h3
  subst h1 h2 h3
  exact ⟨a, c', rfl, h⟩
theorem add_at (g o j : Nat) : (⟨g, o, none⟩ : Addr).add j = ⟨g, o + j, none⟩ := add_plain g o j
theorem src_empty {P : Program} (size : Nat) (t e : TypeId) (ht : P.underlying t = some (.slice e)) (b : Option Addr) (c : Nat) (w : World) : Go.Src P size t (.slice b 0 c) 0 [] w := by
  refine ⟨.inl ⟨e, ht⟩, fun w' => ?_, ?_, ?_, by simp, by simp⟩
  · simp [Builtin.lenOf]
  · cases b <;> first | (simp [Builtin.firstCells]; done) | (simp [Builtin.firstCells]; exact run_loadCells_list (P := P) _ _ [] (fun j v hj => by simp at hj))
  · cases b <;> first | (simp [Builtin.firstCells]; done) | (simp [Builtin.firstCells]; exact run_loadCells_list (P := P) _ _ [] (fun j v hj => by simp at hj))
theorem wpList_append_full {P : Program} {w : World} {ops : Array Oper} {rest : List Oper} {o : Oper} {a : Act} {Q : Exit → Act → World → Prop} (hgd : o.guard = none) (s x : Operand) (t e : TypeId)
    (ho : o.op = .call { callee := .builtin .append, args := #[s, x], argTypes := #[t, t] })
    (h5 : (P.info? e).map (fun i => (i.zero, i.size, i.bytes)) = some (some (.int .i64 0), 1, 8)) (ht : P.underlying t = some (.slice e))
    (al : Option Addr) (l m : List Int) (hs : a.eval s = .slice al l.length l.length) (hl : IntR w (.slice al l.length l.length) l) (v : Value) (hx : a.eval x = v) (hm : IntR w v m) (hlen : l.length + m.length ≤ 1000000)
    (h : ∀ v' w', IntR w' v' (l ++ m) → Below w.heap.size w w' → wpList P ops Q rest (a.put o.dst v') w') :
    wpList P ops Q (o :: rest) a w := by
  obtain ⟨i, hi, hz0, hz1, hz2⟩ := info_parts h5
  by_cases h0 : m = []
  · subst h0
    obtain ⟨b, c, rfl, _⟩ := hm
    refine wpList_plain hgd fun K hK => ?_
    have hrun := Go.run_append_nothing (P := P) w t t o.type e i ht hi al l.length l.length (Nat.le_refl _) (.slice b 0 c) (src_empty _ t e ht b c w)
    unfold Oper.wp
    simp [execOp, ho, resolve, invoke, builtin, hs, hx, hrun, Result.andThen]
    exact hK _ _ (h _ w (by simpa using hl) (Below.refl _ _))
  · have hm0 : 0 < m.length := by cases m with
      | nil => exact absurd rfl h0
      | cons x r => simp
    have hm' := hm
    obtain ⟨b, c, rfl, _⟩ := hm'
    obtain ⟨g, off, rfl, hg, hcell⟩ := intR_addr hm hm0
    refine wpList_append_grows w hgd s x t ho e i (.int .i64 0) 1 8 ht hi hz0 hz1 hz2 rfl (by decide) al l.length l.length (zc l) hs (fun hn => ?_) (by simp [zc]) (fun b hb j u hj => ?_) ⟨g, off, none⟩ m.length c (zc m) hx (by simp [zc]) (fun j u hj => ?_) (fun u hu => ?_) (by omega) (by unfold maxLen; omega) (by omega) fun v' w' h1 h2 => ?_
    · by_cases hl0 : 0 < l.length
      · obtain ⟨_, _, h3, _⟩ := intR_addr hl hl0
        rw [hn] at h3; cases h3
      · omega
    · have hjl : j < l.length := by have := (List.getElem?_eq_some_iff.1 hj).1; simpa [zc] using this
      obtain ⟨g2, o2, h3, _, h4⟩ := intR_addr hl (by omega)
      rw [hb] at h3
      obtain rfl := Option.some.inj h3
      rw [add_at, h4 j hjl, ← hj, zc_at l j hjl]
    · have hjl : j < m.length := by have := (List.getElem?_eq_some_iff.1 hj).1; simpa [zc] using this
      rw [add_at, hcell j hjl, ← hj, zc_at m j hjl]
    · obtain ⟨y, _, rfl⟩ := List.mem_map.1 hu
      rfl
    · refine h v' w' ?_ ⟨h2.os, h2.tape, h2.output, h2.size, fun k hk => h2.block k hk (by simp)⟩
      have h1' : w'.ownsRow w.heap.size e 1 v' (l ++ m).length (zc (l ++ m)) := by
        rw [List.length_append]
        simpa [zc] using h1
      exact intR_owns h1'
end Go.Proofs.MemK
