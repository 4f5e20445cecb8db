/- Entries, types and classes that came in as arguments lie in memory as lists. An entry that came in as an argument: its lists may be put behind others. -/
import Derived.Test.YtbmnpjkcomcboaaGreatDoorSnUW
import Derived.Test.YtbmnpjkcomcboaaGreatDoorArgs
import Derived.Deep.SlicePairs
import Derived.Lib.SmallJoins
import Derived.OpenShut
import Derived.Test.YtbmnpjkcomcboaaGreatDoorEnAB
namespace Go.Proofs.YtbmnpjkcomcboaaGreatDoor
set_option linter.unusedSimpArgs false
set_option linter.unusedVariables false
open Go Go.ChangeShapes Go.WideShapes Go.RowKit Go.Proofs.MemK Go.Deep

theorem strs_cell9 {H : Type} {enc : TypeId × Value → H} {P : Program} {w : World} {t e : TypeId} {n : Nat} {v : Value} {x : DataW H × List MemPlace} (ht : P.underlying t = some (.slice e)) (he : P.underlying e = some .string) (hc : P.cellsOf e = 1)
    (h : DataW.trod enc P w 0 (fun _ => true) true n t [v] = some x) : ∃ (a : Option Addr) (c : Nat) (l : List (List UInt8)), v = .slice a l.length c ∧ StrAt w (.slice a l.length c) l ∧ l.length ≤ maxLen := by
  have hv : ∃ a len c, v = .slice a len c := by
    rcases open_strings ht he hc h with ⟨hcs, _⟩ | ⟨a, len', cap', ss, hcs, _⟩
    · injection hcs with hv _; exact ⟨_, _, _, hv⟩
    · injection hcs with hv _; exact ⟨_, _, _, hv⟩
  obtain ⟨a, len, c, rfl⟩ := hv
  obtain ⟨l, e1, h1, _, h3⟩ := strAt_arg (a0 := a) (len := len) (cap := c) (d := x.1) (ps := x.2) ht he hc ⟨n, h⟩
  subst e1
  exact ⟨a, c, l, rfl, h1, h3⟩
theorem en_c1 : Tryz.prog.cellsOf 9 = 1 := by kernel_rfl
theorem en_c1s : Tryz.prog.cellsOf 47 = 1 := by kernel_rfl
theorem en_c2 : Tryz.prog.cellsOf 81 = 2 := by kernel_rfl
theorem en_c2e : Tryz.prog.cellsOf 39 = 2 := by kernel_rfl
end Go.Proofs.YtbmnpjkcomcboaaGreatDoor
namespace Go.Proofs.YtbmnpjkcomcboaaGreatDoor
set_option linter.unusedSimpArgs false
set_option linter.unusedVariables false
open Go Go.ChangeShapes Go.WideShapes Go.RowKit Go.Proofs.MemK Go.Deep

theorem slOk_cell10 {H : Type} {enc : TypeId × Value → H} {w : World} {n : Nat} {v : Value} {x : DataW H × List MemPlace} (h : DataW.trod enc Tryz.prog w 0 (fun _ => true) true n 47 [v] = some x) : SlOk v := by
  rcases open_strings Tryz.underlying47 Tryz.underlying9 en_c1 h with ⟨hcs, _⟩ | ⟨a, len', cap', ss, hcs, _⟩
  · injection hcs with hv _; exact .inl hv
  · injection hcs with hv _; exact .inr ⟨_, _, _, hv⟩
theorem attrs_argE {H : Type} {enc : TypeId × Value → H} {w : World} {n : Nat} {v : Value} {x : DataW H × List MemPlace} (h : DataW.trod enc Tryz.prog w 0 (fun _ => true) true n 37 [v] = some x) :
    ∃ (a : Option Addr) (c : Nat) (A : List Atr), v = .slice a A.length c ∧ EaAt w (.slice a A.length c) A ∧ A.length ≤ maxLen := by
  rcases open_slice_pairs Tryz.underlying37 Tryz.underlying81 en_c2 rfl rfl en_c1 en_c1s h with ⟨hcs, _⟩ | ⟨a, len, cap, m, k, V0, V1, D0, D1, P0, P1, hcs, _, hl, hm, hmm, _, hx⟩
  · injection hcs with hv _
    subst hv
    exact ⟨none, 0, [], rfl, ⟨.inl rfl, none, 0, rfl, fun i hi => by simp at hi⟩, by decide⟩
  · injection hcs with hv _
    subst hv
    simp only [if_true] at hmm
    subst hmm
    obtain ⟨q, hq⟩ := choose_lt (α := Atr) (n := m) (p := fun i q => V0 i = .string ⟨q.1.toArray⟩ ∧ TxR w (V1 i) q.2 ∧ SlOk (V1 i)) (fun i hi => by
      obtain ⟨s0, e0, _⟩ := DataW.trod_string Tryz.underlying9 (hx i hi).2.2.1
      have hk := slOk_cell10 (hx i hi).2.2.2
      obtain ⟨a1, c1, l1, e1, h1, _⟩ := strs_cell9 Tryz.underlying47 Tryz.underlying9 en_c1 (hx i hi).2.2.2
      exact ⟨(s0.data.toList, l1), by simpa using e0, by rw [e1]; exact txR_str h1, hk⟩)
    have hlen : ((List.range len).map q).length = len := by simp
    refine ⟨some a, m, (List.range len).map q, by rw [hlen], ⟨.inr ⟨_, _, _, rfl⟩, some a, m, rfl, fun i hi => ?_⟩, by rw [hlen]; omega⟩
    rw [hlen] at hi
    obtain ⟨b, off, spot⟩ := a
    have hspot : spot = none := by simpa [Addr.add] using World.cell?_spot (hx 0 (by omega)).1
    subst hspot
    obtain ⟨x0, x1, _, _⟩ := hx i (by omega)
    obtain ⟨y0, y1, y2⟩ := hq i (by omega)
    rw [y0] at x0
    have z0 : w.cell? ⟨b, off + i * 2, none⟩ = some (.string ⟨(q i).1.toArray⟩) := by rw [← add_plain]; exact x0
    have z1 : w.cell? ⟨b, off + i * 2 + 1, none⟩ = some (V1 i) := by rw [Nat.add_assoc, ← add_plain]; exact x1
    refine ⟨b, off, V1 i, rfl, World.block_lt_of_cell? w _ z0, ?_, z1, ?_, y2⟩
    · rw [z0]; simp
    · simpa using y1
end Go.Proofs.YtbmnpjkcomcboaaGreatDoor
