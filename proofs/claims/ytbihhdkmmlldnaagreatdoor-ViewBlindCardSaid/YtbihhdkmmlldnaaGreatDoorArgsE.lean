/- Entries, types and classes that came in as arguments lie in memory as lists. An entry that came in as an argument: its lists may be put behind others. -/
import Derived.Test.YtbihhdkmmlldnaaGreatDoorSnUW
import Derived.Test.YtbihhdkmmlldnaaGreatDoorGenB
import Derived.Deep.SlicePairs
import Derived.Lib.SmallJoins
import Derived.OpenShut
import Derived.Test.YtbihhdkmmlldnaaGreatDoorEnAB
namespace Go.Proofs.YtbihhdkmmlldnaaGreatDoor
set_option linter.unusedSimpArgs false
set_option linter.unusedVariables false
open Go Go.ChangeShapes Go.WideShapes Go.RowKit Go.Proofs.MemK Go.Deep

theorem strs_cell9 {H : Type} {enc : TypeId × Value → H} {P : Program} {w : World} {t e : TypeId} {n : Nat} {v : Value} {x : DataW H × List MemPlace} (ht : P.underlying t = some (.slice e)) (he : P.underlying e = some .string) (hc : P.cellsOf e = 1)
    (h : DataW.trod enc P w 0 (fun _ => true) true n t [v] = some x) : ∃ (a : Option Addr) (c : Nat) (l : List (List UInt8)), v = .slice a l.length c ∧ StrAt w (.slice a l.length c) l ∧ l.length ≤ maxLen := by
  have hv : ∃ a len c, v = .slice a len c := by
    rcases open_strings ht he hc h with ⟨hcs, _⟩ | ⟨a, len', cap', ss, hcs, _⟩
    · injection hcs with hv _; exact ⟨_, _, _, hv⟩
    · injection hcs with hv _; exact ⟨_, _, _, hv⟩
  obtain ⟨a, len, c, rfl⟩ := hv
  obtain ⟨l, e1, h1, _, h3⟩ := strAt_arg (a0 := a) (len := len) (cap := c) (d := x.1) (ps := x.2) ht he hc ⟨n, h⟩
  subst e1
  exact ⟨a, c, l, rfl, h1, h3⟩
/-- A slice of structs of three one-cell fields, opened at every index. -/
theorem open_threes {H : Type} {enc : TypeId × Value → H} {P : Program} {w : World} {t e : TypeId} {f0 f1 f2 : Field} {fuel : Nat} {cs : List Value} {x : DataW H × List MemPlace} (ht : P.underlying t = some (.slice e)) (he : P.underlying e = some (.struct #[f0, f1, f2]))
    (ce : P.cellsOf e = 3) (o0 : f0.offset = 0) (o1 : f1.offset = 1) (o2 : f2.offset = 2) (c0 : P.cellsOf f0.type = 1) (c1 : P.cellsOf f1.type = 1) (c2 : P.cellsOf f2.type = 1)
    (h : DataW.trod enc P w 0 (fun _ => true) true fuel t cs = some x) :
    cs = [.slice none 0 0] ∨
    ∃ (a : Addr) (len cap n : Nat) (V0 V1 V2 : Nat → Value) (Y0 Y1 Y2 : Nat → DataW H × List MemPlace), cs = [.slice (some a) len cap] ∧ len ≤ cap ∧ cap ≤ maxLen ∧
      ∀ i, i < cap → w.cell? (a.add (i * 3)) = some (V0 i) ∧ w.cell? (a.add (i * 3 + 1)) = some (V1 i) ∧ w.cell? (a.add (i * 3 + 2)) = some (V2 i) ∧
        DataW.trod enc P w 0 (fun _ => true) true n f0.type [V0 i] = some (Y0 i) ∧ DataW.trod enc P w 0 (fun _ => true) true n f1.type [V1 i] = some (Y1 i) ∧ DataW.trod enc P w 0 (fun _ => true) true n f2.type [V2 i] = some (Y2 i) := by
  rcases open_slice ht h with h0 | ⟨a, len, cap, m, n, D, Pl, rfl, hb, hl, hm, hmm, rfl, hx⟩
  · exact Or.inl h0.1
  right
  simp only [if_true] at hmm
  subst hmm
  have each : ∀ i, i < m → ∃ q : (Value × Value × Value) × (DataW H × List MemPlace) × (DataW H × List MemPlace) × (DataW H × List MemPlace), w.cell? (a.add (i * 3)) = some q.1.1 ∧ w.cell? (a.add (i * 3 + 1)) = some q.1.2.1 ∧ w.cell? (a.add (i * 3 + 2)) = some q.1.2.2 ∧
      DataW.trod enc P w 0 (fun _ => true) true (n - 1) f0.type [q.1.1] = some q.2.1 ∧ DataW.trod enc P w 0 (fun _ => true) true (n - 1) f1.type [q.1.2.1] = some q.2.2.1 ∧ DataW.trod enc P w 0 (fun _ => true) true (n - 1) f2.type [q.1.2.2] = some q.2.2.2 := by
    intro i hi
    obtain ⟨cs', h1, h2⟩ := hx i hi
    rw [ce] at h1
    obtain ⟨_, hlen, hcell⟩ := World.cells?_some h1
    obtain ⟨xs, k, hk, hxy, _, hxl, hf⟩ := DataW.trod_struct he h2
    have hk' : k = n - 1 := by omega
    subst hk'
    match xs, hxl, cs', hlen with
    | [y0, y1, y2], _, [v0, v1, v2], _ =>
      have g0 := hf 0 f0 rfl
      have g1 := hf 1 f1 rfl
      have g2 := hf 2 f2 rfl
      simp [o0, o1, o2, c0, c1, c2] at g0 g1 g2
      have e0 := hcell 0 (by omega)
      have e1 := hcell 1 (by omega)
      have e2 := hcell 2 (by omega)
      rw [add_add] at e0 e1 e2
      exact ⟨((v0, v1, v2), y0, y1, y2), by simpa using e0, by simpa using e1, by simpa using e2, g0, g1, g2⟩
  obtain ⟨q, hq⟩ := choose_lt each
  exact ⟨a, len, m, n - 1, fun i => (q i).1.1, fun i => (q i).1.2.1, fun i => (q i).1.2.2, fun i => (q i).2.1, fun i => (q i).2.2.1, fun i => (q i).2.2.2, rfl, hl, hm, hq⟩
theorem en_c1 : Tryz.prog.cellsOf 9 = 1 := by kernel_rfl
theorem en_c1s : Tryz.prog.cellsOf 48 = 1 := by kernel_rfl
theorem en_c2 : Tryz.prog.cellsOf 50 = 2 := by kernel_rfl
theorem en_c2e : Tryz.prog.cellsOf 40 = 2 := by kernel_rfl
theorem attrs_arg {H : Type} {enc : TypeId × Value → H} {w : World} {n : Nat} {v : Value} {x : DataW H × List MemPlace} (h : DataW.trod enc Tryz.prog w 0 (fun _ => true) true n 38 [v] = some x) :
    ∃ (a : Option Addr) (c : Nat) (A : List Atr), v = .slice a A.length c ∧ AtAt w (.slice a A.length c) A ∧ A.length ≤ maxLen := by
  rcases open_slice_pairs Tryz.underlying38 Tryz.underlying50 en_c2 rfl rfl en_c1 en_c1s h with ⟨hcs, _⟩ | ⟨a, len, cap, m, k, V0, V1, D0, D1, P0, P1, hcs, _, hl, hm, hmm, _, hx⟩
  · injection hcs with hv _
    subst hv
    exact ⟨none, 0, [], rfl, ⟨none, 0, rfl, fun i hi => by simp at hi⟩, by decide⟩
  · injection hcs with hv _
    subst hv
    simp only [if_true] at hmm
    subst hmm
    obtain ⟨q, hq⟩ := choose_lt (α := Atr) (n := m) (p := fun i q => V0 i = .string ⟨q.1.toArray⟩ ∧ TxR w (V1 i) q.2) (fun i hi => by
      obtain ⟨s0, e0, _⟩ := DataW.trod_string Tryz.underlying9 (hx i hi).2.2.1
      obtain ⟨a1, c1, l1, e1, h1, _⟩ := strs_cell9 Tryz.underlying48 Tryz.underlying9 en_c1 (hx i hi).2.2.2
      exact ⟨(s0.data.toList, l1), by simpa using e0, by rw [e1]; exact txR_str h1⟩)
    have hlen : ((List.range len).map q).length = len := by simp
    refine ⟨some a, m, (List.range len).map q, by rw [hlen], ⟨some a, m, rfl, fun i hi => ?_⟩, by rw [hlen]; omega⟩
    rw [hlen] at hi
    obtain ⟨b, off, spot⟩ := a
    have hspot : spot = none := by simpa [Addr.add] using World.cell?_spot (hx 0 (by omega)).1
    subst hspot
    obtain ⟨x0, x1, _, _⟩ := hx i (by omega)
    obtain ⟨y0, y1⟩ := hq i (by omega)
    rw [y0] at x0
    have z0 : w.cell? ⟨b, off + i * 2, none⟩ = some (.string ⟨(q i).1.toArray⟩) := by rw [← add_plain]; exact x0
    have z1 : w.cell? ⟨b, off + i * 2 + 1, none⟩ = some (V1 i) := by rw [Nat.add_assoc, ← add_plain]; exact x1
    refine ⟨b, off, V1 i, rfl, World.block_lt_of_cell? w _ z0, ?_, z1, ?_⟩
    · rw [z0]; simp
    · simpa using y1
set_option maxRecDepth 100000 in
theorem entry_arg {H : Type} {enc : TypeId × Value → H} {w : World} {r : Reach} {b0 : Nat} {v : Value} {d : DataW H} {ps : List MemPlace} (hval : Value.okWide Tryz.prog w r b0 40 v)
    (h : DataW.Trod enc Tryz.prog w 0 (fun _ => true) true 40 v d ps) : ∃ (dn : List UInt8) (A : List Atr) (a : Option Addr) (c : Nat), v = .agg #[.string ⟨dn.toArray⟩, .slice a A.length c] ∧ AtAt w (.slice a A.length c) A ∧ A.length ≤ maxLen := by
  obtain ⟨v0, v1, y0, y1, n, rfl, _, _, g0, g1⟩ := Joins.open_agg2 Tryz.underlying40 (by kernel_rfl) en_c2e hval h
  obtain ⟨s0, e0, _⟩ := DataW.trod_string Tryz.underlying9 g0
  obtain ⟨a, c, A, rfl, hA, hl⟩ := attrs_arg g1
  injection e0 with e0
  subst e0
  exact ⟨s0.data.toList, A, a, c, by simp, hA, hl⟩
theorem en_c1i : Tryz.prog.cellsOf 3 = 1 := by kernel_rfl
theorem en_c1b : Tryz.prog.cellsOf 4 = 1 := by kernel_rfl
theorem slOk_cell {H : Type} {enc : TypeId × Value → H} {w : World} {n : Nat} {v : Value} {x : DataW H × List MemPlace} (h : DataW.trod enc Tryz.prog w 0 (fun _ => true) true n 48 [v] = some x) : SlOk v := by
  rcases open_strings Tryz.underlying48 Tryz.underlying9 en_c1 h with ⟨hcs, _⟩ | ⟨a, len', cap', ss, hcs, _⟩
  · injection hcs with hv _; exact .inl hv
  · injection hcs with hv _; exact .inr ⟨_, _, _, hv⟩
end Go.Proofs.YtbihhdkmmlldnaaGreatDoor
namespace Go.Proofs.YtbihhdkmmlldnaaGreatDoor
set_option linter.unusedSimpArgs false
set_option linter.unusedVariables false
open Go Go.ChangeShapes Go.WideShapes Go.RowKit Go.Proofs.MemK Go.Deep

theorem slOk_cell10 {H : Type} {enc : TypeId × Value → H} {w : World} {n : Nat} {v : Value} {x : DataW H × List MemPlace} (h : DataW.trod enc Tryz.prog w 0 (fun _ => true) true n 48 [v] = some x) : SlOk v := by
  rcases open_strings Tryz.underlying48 Tryz.underlying9 en_c1 h with ⟨hcs, _⟩ | ⟨a, len', cap', ss, hcs, _⟩
  · injection hcs with hv _; exact .inl hv
  · injection hcs with hv _; exact .inr ⟨_, _, _, hv⟩
theorem attrs_argE {H : Type} {enc : TypeId × Value → H} {w : World} {n : Nat} {v : Value} {x : DataW H × List MemPlace} (h : DataW.trod enc Tryz.prog w 0 (fun _ => true) true n 38 [v] = some x) :
    ∃ (a : Option Addr) (c : Nat) (A : List Atr), v = .slice a A.length c ∧ EaAt w (.slice a A.length c) A ∧ A.length ≤ maxLen := by
  rcases open_slice_pairs Tryz.underlying38 Tryz.underlying50 en_c2 rfl rfl en_c1 en_c1s h with ⟨hcs, _⟩ | ⟨a, len, cap, m, k, V0, V1, D0, D1, P0, P1, hcs, _, hl, hm, hmm, _, hx⟩
  · injection hcs with hv _
    subst hv
    exact ⟨none, 0, [], rfl, ⟨.inl rfl, none, 0, rfl, fun i hi => by simp at hi⟩, by decide⟩
  · injection hcs with hv _
    subst hv
    simp only [if_true] at hmm
    subst hmm
    obtain ⟨q, hq⟩ := choose_lt (α := Atr) (n := m) (p := fun i q => V0 i = .string ⟨q.1.toArray⟩ ∧ TxR w (V1 i) q.2 ∧ SlOk (V1 i)) (fun i hi => by
      obtain ⟨s0, e0, _⟩ := DataW.trod_string Tryz.underlying9 (hx i hi).2.2.1
      have hk := slOk_cell10 (hx i hi).2.2.2
      obtain ⟨a1, c1, l1, e1, h1, _⟩ := strs_cell9 Tryz.underlying48 Tryz.underlying9 en_c1 (hx i hi).2.2.2
      exact ⟨(s0.data.toList, l1), by simpa using e0, by rw [e1]; exact txR_str h1, hk⟩)
    have hlen : ((List.range len).map q).length = len := by simp
    refine ⟨some a, m, (List.range len).map q, by rw [hlen], ⟨.inr ⟨_, _, _, rfl⟩, some a, m, rfl, fun i hi => ?_⟩, by rw [hlen]; omega⟩
    rw [hlen] at hi
    obtain ⟨b, off, spot⟩ := a
    have hspot : spot = none := by simpa [Addr.add] using World.cell?_spot (hx 0 (by omega)).1
    subst hspot
    obtain ⟨x0, x1, _, _⟩ := hx i (by omega)
    obtain ⟨y0, y1, y2⟩ := hq i (by omega)
    rw [y0] at x0
    have z0 : w.cell? ⟨b, off + i * 2, none⟩ = some (.string ⟨(q i).1.toArray⟩) := by rw [← add_plain]; exact x0
    have z1 : w.cell? ⟨b, off + i * 2 + 1, none⟩ = some (V1 i) := by rw [Nat.add_assoc, ← add_plain]; exact x1
    refine ⟨b, off, V1 i, rfl, World.block_lt_of_cell? w _ z0, ?_, z1, ?_, y2⟩
    · rw [z0]; simp
    · simpa using y1
set_option maxRecDepth 100000 in
theorem entry_argE {H : Type} {enc : TypeId × Value → H} {w : World} {r : Reach} {b0 : Nat} {v : Value} {d : DataW H} {ps : List MemPlace} (hval : Value.okWide Tryz.prog w r b0 40 v)
    (h : DataW.Trod enc Tryz.prog w 0 (fun _ => true) true 40 v d ps) : ∃ (dn : List UInt8) (A : List Atr) (a : Option Addr) (c : Nat), v = .agg #[.string ⟨dn.toArray⟩, .slice a A.length c] ∧ EaAt w (.slice a A.length c) A ∧ A.length ≤ maxLen := by
  obtain ⟨v0, v1, y0, y1, n, rfl, _, _, g0, g1⟩ := Joins.open_agg2 Tryz.underlying40 (by kernel_rfl) en_c2e hval h
  obtain ⟨s0, e0, _⟩ := DataW.trod_string Tryz.underlying9 g0
  obtain ⟨a, c, A, rfl, hA, hl⟩ := attrs_argE g1
  injection e0 with e0
  subst e0
  exact ⟨s0.data.toList, A, a, c, by simp, hA, hl⟩
end Go.Proofs.YtbihhdkmmlldnaaGreatDoor
